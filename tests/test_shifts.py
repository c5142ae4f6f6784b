"""Points 1 and 3 of the document, as far as they speak of shifts, and what holds, a to c."""

import unittest

from partfits.voices import fits, shifts

TOP = 4294967295

# Written out, so that no rule of the program's own is asked about itself.
NEAREST_FIRST = [
    0, 1, -1, 2, -2, 3, -3, 4, -4, 5, -5, 6, -6, 7, -7, 8, -8, 9, -9, 10, -10, 11, -11, 12, -12,
    13, -13, 14, -14, 15, -15, 16, -16, 17, -17, 18, -18, 19, -19, 20, -20, 21, -21, 22, -22, 23, -23, 24, -24,
]

ENDS = (0, 1, 12, 23, 24, 25, 47, 48, 63, 79, 80, 102, 103, 104, 126, 127)
REACHES = [(low, high) for low in ENDS for high in ENDS if low <= high]


def voices_and_parts():
    return [voice + part for voice in REACHES for part in REACHES]


class Ordinary(unittest.TestCase):
    def test_many(self):
        self.assertEqual(shifts(48, 72, 50, 65), [10, 0, 1, -1, 2, -2, 3, 4, 5, 6, 7])

    def test_above_0_alone(self):
        self.assertEqual(shifts(60, 80, 50, 65), [6, 10, 11, 12, 13, 14, 15])

    def test_below_0_alone(self):
        self.assertEqual(shifts(40, 60, 50, 65), [6, -5, -6, -7, -8, -9, -10])

    def test_one_alone(self):
        self.assertEqual(shifts(50, 60, 50, 60), [1, 0])
        self.assertEqual(shifts(50, 60, 45, 55), [1, 5])
        self.assertEqual(shifts(50, 60, 57, 67), [1, -7])

    def test_none_as_the_part_is_too_wide(self):
        self.assertEqual(shifts(50, 60, 45, 65), [0])
        self.assertEqual(shifts(60, 61, 0, 127), [0])

    def test_none_as_the_part_is_too_far(self):
        self.assertEqual(shifts(90, 110, 10, 20), [0])
        self.assertEqual(shifts(10, 30, 90, 95), [0])

    def test_all(self):
        self.assertEqual(shifts(0, 127, 60, 64), [49] + NEAREST_FIRST)


class Order(unittest.TestCase):
    def test_both_ways_as_near(self):
        self.assertEqual(shifts(50, 70, 58, 62), [17, 0, 1, -1, 2, -2, 3, -3, 4, -4, 5, -5, 6, -6, 7, -7, 8, -8])
        self.assertEqual(shifts(59, 61, 60, 60), [3, 0, 1, -1])

    def test_further_one_way_than_the_other(self):
        self.assertEqual(shifts(50, 60, 51, 56), [6, 0, 1, -1, 2, 3, 4])
        self.assertEqual(shifts(50, 60, 54, 59), [6, 0, 1, -1, -2, -3, -4])

    def test_only_one_way(self):
        self.assertEqual(shifts(50, 60, 50, 56), [5, 0, 1, 2, 3, 4])
        self.assertEqual(shifts(50, 60, 54, 60), [5, 0, -1, -2, -3, -4])
        self.assertEqual(shifts(50, 60, 48, 56), [3, 2, 3, 4])
        self.assertEqual(shifts(50, 60, 54, 62), [3, -2, -3, -4])

    def test_nearest_first_everywhere(self):
        for case in voices_and_parts():
            answered = shifts(*case)[1:]
            self.assertEqual(answered, [t for t in NEAREST_FIRST if t in answered], case)


class Edges(unittest.TestCase):
    def test_as_wide_as_the_voice(self):
        for up in range(-24, 25):
            self.assertEqual(shifts(50 + up, 60 + up, 50, 60), [1, up], up)

    def test_narrower_by_one(self):
        self.assertEqual(shifts(50, 60, 50, 59), [2, 0, 1])
        self.assertEqual(shifts(50, 60, 51, 60), [2, 0, -1])
        self.assertEqual(shifts(50, 60, 45, 54), [2, 5, 6])
        self.assertEqual(shifts(50, 60, 56, 65), [2, -5, -6])

    def test_wider_by_one(self):
        for up in range(-24, 25):
            self.assertEqual(shifts(50 + up, 60 + up, 50, 61), [0], up)
            self.assertEqual(shifts(50 + up, 60 + up, 49, 60), [0], up)
        self.assertEqual(shifts(0, 126, 0, 127), [0])
        self.assertEqual(shifts(1, 127, 0, 127), [0])

    def test_just_two_octaves_higher(self):
        self.assertEqual(shifts(74, 84, 50, 60), [1, 24])
        self.assertEqual(shifts(75, 85, 50, 60), [0])
        self.assertEqual(shifts(73, 90, 50, 60), [2, 23, 24])

    def test_just_two_octaves_lower(self):
        self.assertEqual(shifts(26, 36, 50, 60), [1, -24])
        self.assertEqual(shifts(25, 35, 50, 60), [0])
        self.assertEqual(shifts(20, 37, 50, 60), [2, -23, -24])

    def test_just_two_octaves_both_ways(self):
        self.assertEqual(shifts(36, 84, 60, 60), [49] + NEAREST_FIRST)
        self.assertEqual(shifts(35, 85, 60, 60), [49] + NEAREST_FIRST)
        self.assertEqual(shifts(37, 84, 60, 60), [48] + NEAREST_FIRST[:-1])
        self.assertEqual(shifts(36, 83, 60, 60), [48] + NEAREST_FIRST[:-2] + [-24])

    def test_notes_0_and_127(self):
        self.assertEqual(shifts(0, 127, 0, 127), [1, 0])
        self.assertEqual(shifts(0, 127, 0, 0), [25] + list(range(0, 25)))
        self.assertEqual(shifts(0, 127, 127, 127), [25] + list(range(0, -25, -1)))
        self.assertEqual(shifts(0, 127, 0, 126), [2, 0, 1])
        self.assertEqual(shifts(0, 127, 1, 127), [2, 0, -1])
        self.assertEqual(shifts(0, 0, 24, 24), [1, -24])
        self.assertEqual(shifts(0, 0, 25, 25), [0])
        self.assertEqual(shifts(127, 127, 103, 103), [1, 24])
        self.assertEqual(shifts(127, 127, 102, 102), [0])
        self.assertEqual(shifts(0, 0, 127, 127), [0])
        self.assertEqual(shifts(127, 127, 0, 0), [0])

    def test_one_note(self):
        self.assertEqual(shifts(60, 60, 60, 60), [1, 0])
        self.assertEqual(shifts(60, 60, 58, 58), [1, 2])
        self.assertEqual(shifts(60, 60, 62, 62), [1, -2])
        self.assertEqual(shifts(60, 62, 61, 61), [3, 0, 1, -1])
        self.assertEqual(shifts(60, 60, 60, 61), [0])
        self.assertEqual(shifts(0, 0, 0, 0), [1, 0])
        self.assertEqual(shifts(127, 127, 127, 127), [1, 0])


class NotesRefused(unittest.TestCase):
    # Each of these is wrong as a voice and as a part alike.
    WRONG = (
        (61, 60), (1, 0), (127, 126), (127, 0),
        (0, 128), (127, 128), (128, 128), (60, 1000), (0, TOP), (TOP, TOP),
        (128, 127), (129, 128), (TOP, 0), (TOP, 127), (TOP, TOP - 1),
        (0, 2147483647), (0, 2147483648), (2147483648, 2147483648),
    )

    def test_a_wrong_voice(self):
        for low, high in self.WRONG:
            self.assertEqual(shifts(low, high, 60, 60), [-22], (low, high))
            self.assertEqual(shifts(low, high, 0, 127), [-22], (low, high))

    def test_a_wrong_part(self):
        for low, high in self.WRONG:
            self.assertEqual(shifts(0, 127, low, high), [-22], (low, high))
            self.assertEqual(shifts(60, 60, low, high), [-22], (low, high))

    def test_a_wrong_voice_and_a_wrong_part(self):
        for voice in self.WRONG:
            for part in self.WRONG:
                self.assertEqual(shifts(*voice, *part), [-22], (voice, part))

    def test_singing_a_part_lower_does_not_mend_it(self):
        self.assertEqual(shifts(0, 127, 120, 128), [-22])

    def test_right_notes_at_the_ends_are_taken(self):
        for low, high in ((0, 0), (0, 127), (127, 127), (60, 60), (126, 127)):
            self.assertEqual(shifts(low, high, low, high), [1, 0], (low, high))


class WhatHolds(unittest.TestCase):
    def test_note_by_note(self):
        for case in voices_and_parts():
            voicelow, voicehigh, partlow, parthigh = case
            voice = range(voicelow, voicehigh + 1)
            # A part without a gap lies within the voice if both its ends do.
            wanted = [t for t in NEAREST_FIRST if partlow + t in voice and parthigh + t in voice]
            self.assertEqual(shifts(*case), [len(wanted)] + wanted, case)

    def test_from_one_to_another_all_between(self):
        for case in voices_and_parts():
            answered = sorted(shifts(*case)[1:])
            if answered:
                self.assertEqual(answered, list(range(answered[0], answered[-1] + 1)), case)

    def test_the_first_number_tells_how_many_follow(self):
        for case in voices_and_parts():
            answer = shifts(*case)
            self.assertEqual(answer[0], len(answer) - 1, case)

    def test_never_beyond_two_octaves(self):
        for case in voices_and_parts():
            for t in shifts(*case)[1:]:
                self.assertTrue(-24 <= t <= 24, case)

    def test_voice_and_part_as_much_higher_answer_the_same(self):
        cases = ((20, 40, 25, 33), (20, 40, 20, 40), (20, 40, 20, 41), (0, 60, 30, 30), (24, 24, 0, 0), (0, 0, 24, 24))
        for case in cases:
            for up in range(0, 128 - max(case)):
                self.assertEqual(shifts(*[note + up for note in case]), shifts(*case), (case, up))

    def test_as_much_higher_for_many_voices_and_parts(self):
        for case in voices_and_parts():
            down = min(case)
            self.assertEqual(shifts(*[note - down for note in case]), shifts(*case), case)

    def test_just_those_for_which_fits_answers_1(self):
        lows, highs = (0, 1, 24, 25, 63, 103, 127), (0, 24, 48, 64, 80, 126, 127)
        reaches = [(low, high) for low in lows for high in highs if low <= high]
        for voice in reaches:
            for part in reaches:
                answered = shifts(*voice, *part)[1:]
                for t in range(-24, 25):
                    self.assertEqual(fits(*voice, *part, [t]), [1 if t in answered else 0], (voice, part, t))


class WhatIsGivenBack(unittest.TestCase):
    # One case for each way out: many, one, none, all, -22 by the voice, -22 by the part.
    CASES = (
        ((48, 72, 50, 65), [10, 0, 1, -1, 2, -2, 3, 4, 5, 6, 7]),
        ((50, 60, 50, 60), [1, 0]),
        ((50, 60, 50, 61), [0]),
        ((0, 127, 60, 64), [49] + NEAREST_FIRST),
        ((72, 48, 50, 65), [-22]),
        ((48, 72, 50, 128), [-22]),
    )

    def test_the_answer_is_a_list_of_whole_numbers(self):
        for case, wanted in self.CASES:
            answer = shifts(*case)
            self.assertIs(type(answer), list)
            self.assertEqual([type(number) for number in answer], [int] * len(wanted), case)

    def test_the_answer_is_a_new_list(self):
        for case, wanted in self.CASES:
            self.assertIsNot(shifts(*case), shifts(*case))

    def test_a_second_call_answers_as_the_first(self):
        for round_number in range(3):
            for case, wanted in self.CASES:
                answer = shifts(*case)
                self.assertEqual(answer, wanted, round_number)
                # Whoever got an answer may do as they like with it.
                answer[0] = 99
                answer.reverse()
                answer.append(99)

    def test_clearing_one_answer_leaves_the_others(self):
        for case, wanted in self.CASES:
            first = shifts(*case)
            second = shifts(*case)
            first.clear()
            self.assertEqual(second, wanted, case)
            self.assertEqual(shifts(*case), wanted, case)


if __name__ == "__main__":
    unittest.main()
