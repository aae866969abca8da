"""Which edits are in force, as undos take away and give back."""


def in_force(edits):
    """The sorted list of the ids of the edits in force, of any list of edits with different ids."""
    undone = {}
    found = []
    # Only greater numbers of the same person can undo an edit, so these are looked at first.
    for edit_id, _, action in sorted(edits, key=lambda edit: edit[0], reverse=True):
        if edit_id not in undone:
            found.append(edit_id)
            if action[0] == "undo" and action[1] < edit_id[1]:
                undone[(edit_id[0], action[1])] = True
    return sorted(found)


def in_force_without(edits, persons):
    """The ids of the edits in force but for those of the persons in the tuple."""
    return [edit_id for edit_id in in_force(edits) if edit_id[0] not in persons]
