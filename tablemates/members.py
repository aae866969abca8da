"""Which lines belong to a block whose first and last line an edit named."""

from tablemates.live import is_first_line
from tablemates.versions import counts


def _is_seen(seen, line):
    return is_first_line(line) or counts(seen, line)


def members(view, seen, axis, first, last):
    """The list, in the line order, of the members of a block of an edit with the version `seen`."""
    lines = view.order(axis)
    between = lines[lines.index(first):lines.index(last) + 1]
    found = {line: True for line in between if _is_seen(seen, line)}
    # The neighbours of a line were inserted before it, so whether they are members is known by then.
    for edit_id, _, action in view.edits:
        if action[0] == "insert" and action[1] == axis and not counts(seen, edit_id):
            if action[2] in found and action[3] in found:
                found[edit_id] = True
    return [line for line in lines if line in found]


def segments(view, seen, axis, first, last):
    """The list of the tuples (from, to) of the indexes between which all live lines are members."""
    found = []
    for line in members(view, seen, axis, first, last):
        index = view.index(axis, line)
        if index is None:
            continue
        if found != [] and found[-1][1] == index - 1:
            found[-1] = (found[-1][0], index)
        else:
            found.append((index, index))
    return found
