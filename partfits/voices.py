"""Whether, and by how much, a part is sung higher or lower so that it fits a voice."""

HIGHEST_NOTE = 127
TWO_OCTAVES = 24
NOTES_REFUSED = -22
SHIFT_REFUSED = -34


def are_notes(low, high):
    # Nothing below 0 is handed in, so only the upper end needs a look.
    return low <= high and high <= HIGHEST_NOTE


def lies_within(voicelow, voicehigh, low, high):
    return voicelow <= low and high <= voicehigh


def nearest_first():
    found = [0]
    for step in range(1, TWO_OCTAVES + 1):
        # Higher stands ahead of lower where both are as near.
        found.append(step)
        found.append(-step)
    return found


def fits(voicelow, voicehigh, partlow, parthigh, t):
    # The notes come first: where both are wrong, they are what is refused.
    if not are_notes(voicelow, voicehigh) or not are_notes(partlow, parthigh):
        return [NOTES_REFUSED]
    shift = t[0]
    if abs(shift) > TWO_OCTAVES:
        return [SHIFT_REFUSED]
    if lies_within(voicelow, voicehigh, partlow + shift, parthigh + shift):
        return [1]
    return [0]


def shifts(voicelow, voicehigh, partlow, parthigh):
    if not are_notes(voicelow, voicehigh) or not are_notes(partlow, parthigh):
        return [NOTES_REFUSED]
    found = []
    for shift in nearest_first():
        if lies_within(voicelow, voicehigh, partlow + shift, parthigh + shift):
            found.append(shift)
    return [len(found)] + found
