"""What the next undo and the next redo of a person take back."""

from tablemates.effects import in_force


def _own_actions(edits, person):
    """The dict from the numbers of a person's edits to their actions."""
    return {edit_id[1]: action for edit_id, _, action in edits if edit_id[0] == person}


def _own_in_force(edits, person):
    return [number for other, number in in_force(edits) if other == person]


def undo_target(edits, person):
    """The number of the edit that an undo of this person undoes, None if there is none."""
    actions = _own_actions(edits, person)
    numbers = [number for number in _own_in_force(edits, person) if actions[number][0] != "undo"]
    return max(numbers, default=None)


def _undoes_a_plain_edit(actions, number):
    action = actions[number]
    return action[0] == "undo" and actions[action[1]][0] != "undo"


def redo_target(edits, person):
    """The number of the undo that a redo of this person undoes, None if there is none."""
    actions = _own_actions(edits, person)
    numbers = [number for number in _own_in_force(edits, person) if _undoes_a_plain_edit(actions, number)]
    target = max(numbers, default=None)
    # A new edit behind an undo makes that undo final.
    if target is None or any([number > target and actions[number][0] != "undo" for number in actions]):
        return None
    return target
