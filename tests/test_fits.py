"""Points 1 and 2 of the document, as far as they speak of fits."""

import unittest

from partfits.voices import fits

TOP = 4294967295
T_LOWEST = -2147483648
T_HIGHEST = 2147483647


class Ordinary(unittest.TestCase):
    def test_fits_as_it_is(self):
        self.assertEqual(fits(48, 72, 50, 65, [0]), [1])

    def test_fits_sung_higher(self):
        self.assertEqual(fits(60, 80, 50, 65, [12]), [1])
        self.assertEqual(fits(60, 80, 50, 65, [0]), [0])

    def test_fits_sung_lower(self):
        self.assertEqual(fits(40, 60, 50, 65, [-7]), [1])
        self.assertEqual(fits(40, 60, 50, 65, [0]), [0])

    def test_too_high(self):
        self.assertEqual(fits(48, 72, 60, 73, [0]), [0])
        self.assertEqual(fits(48, 72, 50, 65, [8]), [0])
        self.assertEqual(fits(48, 72, 80, 90, [0]), [0])

    def test_too_low(self):
        self.assertEqual(fits(48, 72, 47, 60, [0]), [0])
        self.assertEqual(fits(48, 72, 50, 65, [-3]), [0])
        self.assertEqual(fits(48, 72, 20, 30, [0]), [0])

    def test_too_wide_however_it_is_sung(self):
        for t in range(-24, 25):
            self.assertEqual(fits(50, 60, 45, 65, [t]), [0], t)


class Edges(unittest.TestCase):
    def shifts_that_fit(self, voicelow, voicehigh, partlow, parthigh):
        return [t for t in range(-24, 25) if fits(voicelow, voicehigh, partlow, parthigh, [t]) == [1]]

    def test_as_wide_as_the_voice(self):
        self.assertEqual(self.shifts_that_fit(50, 60, 50, 60), [0])
        self.assertEqual(self.shifts_that_fit(50, 60, 45, 55), [5])
        self.assertEqual(self.shifts_that_fit(50, 60, 57, 67), [-7])

    def test_narrower_by_one(self):
        self.assertEqual(self.shifts_that_fit(50, 60, 50, 59), [0, 1])
        self.assertEqual(self.shifts_that_fit(50, 60, 51, 60), [-1, 0])

    def test_wider_by_one(self):
        self.assertEqual(self.shifts_that_fit(50, 60, 50, 61), [])
        self.assertEqual(self.shifts_that_fit(50, 60, 49, 60), [])
        self.assertEqual(self.shifts_that_fit(50, 60, 40, 51), [])

    def test_two_octaves_higher(self):
        self.assertEqual(fits(74, 84, 50, 60, [24]), [1])
        self.assertEqual(fits(75, 84, 50, 59, [24]), [0])
        self.assertEqual(fits(74, 84, 50, 60, [25]), [-34])
        self.assertEqual(fits(75, 85, 50, 60, [25]), [-34])

    def test_two_octaves_lower(self):
        self.assertEqual(fits(26, 36, 50, 60, [-24]), [1])
        self.assertEqual(fits(26, 35, 51, 60, [-24]), [0])
        self.assertEqual(fits(26, 36, 50, 60, [-25]), [-34])
        self.assertEqual(fits(25, 35, 50, 60, [-25]), [-34])

    def test_notes_0_and_127(self):
        self.assertEqual(self.shifts_that_fit(0, 127, 0, 127), [0])
        self.assertEqual(self.shifts_that_fit(0, 127, 0, 0), list(range(0, 25)))
        self.assertEqual(self.shifts_that_fit(0, 127, 127, 127), list(range(-24, 1)))
        self.assertEqual(self.shifts_that_fit(0, 0, 24, 24), [-24])
        self.assertEqual(self.shifts_that_fit(127, 127, 103, 103), [24])
        self.assertEqual(self.shifts_that_fit(0, 0, 127, 127), [])

    def test_one_note(self):
        self.assertEqual(self.shifts_that_fit(60, 60, 60, 60), [0])
        self.assertEqual(self.shifts_that_fit(60, 60, 58, 58), [2])
        self.assertEqual(self.shifts_that_fit(60, 62, 61, 61), [-1, 0, 1])
        self.assertEqual(self.shifts_that_fit(60, 60, 60, 61), [])


class NotesRefused(unittest.TestCase):
    # Each of these is wrong as a voice and as a part alike.
    WRONG = (
        (61, 60), (1, 0), (127, 126), (127, 0),
        (0, 128), (127, 128), (128, 128), (60, 1000), (0, TOP), (TOP, TOP),
        (128, 127), (129, 128), (TOP, 0), (TOP, 127), (TOP, TOP - 1),
        (0, 2147483647), (0, 2147483648), (2147483648, 2147483648),
    )

    def test_a_wrong_voice(self):
        for low, high in self.WRONG:
            for t in (0, 24, -24):
                self.assertEqual(fits(low, high, 60, 60, [t]), [-22], (low, high, t))

    def test_a_wrong_part(self):
        for low, high in self.WRONG:
            for t in (0, 24, -24):
                self.assertEqual(fits(0, 127, low, high, [t]), [-22], (low, high, t))

    def test_a_wrong_voice_and_a_wrong_part(self):
        for voice in self.WRONG:
            for part in self.WRONG:
                self.assertEqual(fits(voice[0], voice[1], part[0], part[1], [0]), [-22], (voice, part))

    def test_singing_a_part_lower_does_not_mend_it(self):
        self.assertEqual(fits(0, 127, 100, 128, [-1]), [-22])

    def test_wrong_notes_stand_ahead_of_a_wrong_t(self):
        for low, high in self.WRONG:
            for t in (25, -25, T_LOWEST, T_HIGHEST):
                self.assertEqual(fits(low, high, 60, 60, [t]), [-22], (low, high, t))
                self.assertEqual(fits(0, 127, low, high, [t]), [-22], (low, high, t))
                self.assertEqual(fits(low, high, low, high, [t]), [-22], (low, high, t))

    def test_right_notes_at_the_ends_are_taken(self):
        for low, high in ((0, 0), (0, 127), (127, 127), (60, 60), (126, 127)):
            self.assertEqual(fits(low, high, low, high, [0]), [1], (low, high))


class ShiftRefused(unittest.TestCase):
    WRONG = (25, -25, 26, -26, 48, -48, 127, -128, 1000, -1000, T_LOWEST, T_LOWEST + 1, T_HIGHEST)

    def test_a_wrong_t(self):
        for t in self.WRONG:
            self.assertEqual(fits(0, 127, 60, 60, [t]), [-34], t)

    def test_a_wrong_t_where_no_t_would_fit(self):
        for t in self.WRONG:
            self.assertEqual(fits(60, 61, 0, 127, [t]), [-34], t)

    def test_every_right_t_is_taken(self):
        for t in range(-24, 25):
            self.assertEqual(fits(0, 127, 60, 60, [t]), [1], t)


class NoteByNote(unittest.TestCase):
    ENDS = (0, 1, 12, 13, 24, 25, 63, 102, 103, 126, 127)

    def reaches(self):
        return [(low, high) for low in self.ENDS for high in self.ENDS if low <= high]

    def test_all_notes_sung_so_lie_within_the_voice(self):
        for voicelow, voicehigh in self.reaches():
            voice = set(range(voicelow, voicehigh + 1))
            for partlow, parthigh in self.reaches():
                for t in (-24, -23, -13, -12, -11, -1, 0, 1, 11, 12, 13, 23, 24):
                    sung = set(range(partlow + t, parthigh + t + 1))
                    self.assertEqual(
                        fits(voicelow, voicehigh, partlow, parthigh, [t]),
                        [1 if sung <= voice else 0],
                        (voicelow, voicehigh, partlow, parthigh, t),
                    )

    def test_voice_and_part_as_much_higher_answer_the_same(self):
        for up in (0, 1, 12, 40):
            for t in range(-26, 27):
                self.assertEqual(
                    fits(50 + up, 70 + up, 55 + up, 63 + up, [t]), fits(50, 70, 55, 63, [t]), (up, t)
                )

    def test_it_fits_just_from_one_to_another_all_between(self):
        answers = [fits(50, 70, 55, 63, [t])[0] for t in range(-24, 25)]
        self.assertEqual(answers, [0] * 19 + [1] * 13 + [0] * 17)


class Unchanging(list):
    """A list that fails as soon as someone changes it, even if it is put back later."""

    def refuse(self, *args, **kwargs):
        raise AssertionError("what was handed in is changed")

    __setitem__ = __delitem__ = __iadd__ = __imul__ = refuse
    append = clear = extend = insert = pop = remove = reverse = sort = refuse


class WhatIsHandedInAndGivenBack(unittest.TestCase):
    # One case for each way out: fits, doesn't, -22 by the voice, -22 by the part, -34, both.
    CASES = (
        ((48, 72, 50, 65, 1), 1),
        ((48, 72, 50, 65, 24), 0),
        ((72, 48, 50, 65, 1), -22),
        ((48, 72, 50, 128, 1), -22),
        ((48, 72, 50, 65, 25), -34),
        ((72, 48, 65, 50, -25), -22),
    )

    def test_t_is_not_changed(self):
        for (vlow, vhigh, plow, phigh, t), wanted in self.CASES:
            handed = Unchanging([t])
            self.assertEqual(fits(vlow, vhigh, plow, phigh, handed), [wanted])
            self.assertEqual(list(handed), [t])

    def test_the_answer_is_a_list_of_one_whole_number(self):
        for (vlow, vhigh, plow, phigh, t), wanted in self.CASES:
            answer = fits(vlow, vhigh, plow, phigh, [t])
            self.assertIs(type(answer), list)
            self.assertEqual(len(answer), 1)
            self.assertIs(type(answer[0]), int)
            self.assertEqual(answer[0], wanted)

    def test_the_answer_is_a_new_list(self):
        handed = [1]
        self.assertIsNot(fits(48, 72, 50, 65, handed), handed)
        for (vlow, vhigh, plow, phigh, t), wanted in self.CASES:
            first = fits(vlow, vhigh, plow, phigh, [t])
            second = fits(vlow, vhigh, plow, phigh, [t])
            self.assertIsNot(first, second)

    def test_a_second_call_answers_as_the_first(self):
        for round_number in range(3):
            for (vlow, vhigh, plow, phigh, t), wanted in self.CASES:
                answer = fits(vlow, vhigh, plow, phigh, [t])
                self.assertEqual(answer, [wanted], round_number)
                # Whoever got an answer may do as they like with it.
                answer[0] = 99
                answer.append(99)

    def test_the_same_t_may_be_handed_in_again(self):
        handed = [1]
        self.assertEqual(fits(48, 72, 50, 65, handed), [1])
        self.assertEqual(fits(48, 72, 50, 65, handed), [1])
        handed[0] = 25
        self.assertEqual(fits(48, 72, 50, 65, handed), [-34])


if __name__ == "__main__":
    unittest.main()
