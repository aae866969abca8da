"""Which writes of a cell, and which tellings of a name, are shown."""

from tablemates.edit import has_seen


def _standing(view, kind):
    """The edits in force with an action of this kind, in their order."""
    forced = {edit_id: True for edit_id in view.forced}
    return [edit for edit in view.edits if edit[2][0] == kind and edit[0] in forced]


def _uncovered(told):
    """Of tuples (edit, what it tells) those that no other edit among them has seen, with ids for edits."""
    found = []
    for edit, part in told:
        if not any([has_seen(other[0], edit) for other in told]):
            found.append((edit[0], part))
    return found


def shown_writes(view, row, column):
    """The list of the tuples (id, kept content) of what is shown in the cell of two line ids."""
    told = []
    for edit in _standing(view, "write"):
        told.extend([(edit, cell[2]) for cell in edit[2][1] if cell[:2] == (row, column)])
    return _uncovered(told)


def all_shown_writes(view):
    """The dict from all cells that are written, as tuples of line ids, to what is shown in them."""
    told = {}
    for edit in _standing(view, "write"):
        for row, column, content in edit[2][1]:
            told.setdefault((row, column), []).append((edit, content))
    return {cell: _uncovered(told[cell]) for cell in told}


def shown_names(view, word):
    """The list of the tuples (id, blocks) of what is shown of a name."""
    return _uncovered([(edit, edit[2][2]) for edit in _standing(view, "name") if edit[2][1] == word])


def words_told(view):
    """The sorted list of the words of which some edit in force tells something."""
    return sorted(set([edit[2][1] for edit in _standing(view, "name")]))
