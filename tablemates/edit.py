"""Edits: tuples (id, seen, action), and their order."""

from tablemates.versions import counts, includes

PERSONS = (1, 2, 3, 4)


def stamp(edit):
    """The stamp of an edit; it is greater than that of each edit that it has seen."""
    return 1 + sum(edit[1])


def has_seen(edit, other):
    """Whether the version of the edit counts the other one."""
    return counts(edit[1], other[0])


def place(edit):
    """What the order goes by: an edit's stamp and id."""
    return (stamp(edit), edit[0])


def ordered(edits):
    """The list of the edits in their order."""
    if len(set([edit[0] for edit in edits])) == len(edits):
        return sorted(edits, key=place)
    # Edits of one id may have one stamp: then, too, the order does not depend on the list.
    return sorted(edits, key=lambda edit: (place(edit), repr(edit)))


def _numbers(edits, person):
    return sorted([edit[0][1] for edit in edits if edit[0][0] == person])


def version_of(edits):
    """For each person the number of their edits."""
    return tuple([len(_numbers(edits, person)) for person in PERSONS])


def _without_gap(edits, person):
    numbers = _numbers(edits, person)
    return numbers == list(range(1, len(numbers) + 1))


def fits(edit, edits, held):
    """Whether the version of the edit is one of a copy that held only edits of this list.

    The version `held` counts only ids of the list.
    """
    person, number = edit[0]
    if person not in PERSONS or edit[1][person - 1] != number - 1:
        return False
    if not includes(held, edit[1]):
        return False
    return all([includes(edit[1], other[1]) for other in edits if has_seen(edit, other)])


def closed(edits):
    """Whether a list of any edits is closed: nothing that an edit has seen is missing."""
    if not all([_without_gap(edits, person) for person in PERSONS]):
        return False
    held = version_of(edits)
    return all([fits(edit, edits, held) for edit in edits])
