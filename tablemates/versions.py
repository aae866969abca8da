"""Versions: of each of the four persons, how many of their edits were held."""


def nothing():
    """The version of no edits."""
    return (0, 0, 0, 0)


def counts(version, edit_id):
    """Whether the version counts the edit with this id."""
    person, number = edit_id
    # A person who has no entry has no edits that could be counted.
    return 1 <= person <= len(version) and version[person - 1] >= number


def includes(version, other):
    """Whether no entry of the other version is greater than that of this one."""
    return all([mine >= theirs for mine, theirs in zip(version, other)])


def joined(version, other):
    """The version with the greater entry for each person."""
    return tuple([max(mine, theirs) for mine, theirs in zip(version, other)])
