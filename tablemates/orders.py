"""The order of all lines of an axis that were ever inserted."""

from tablemates.edit import ordered
from tablemates.wire import AXES


def line_order(begin, edits, axis):
    """The list of the ids of all lines of the axis, those of the beginning and inserted ones."""
    many = begin[AXES.index(axis)]
    lines = [(0, number) for number in range(1, many + 1)]
    # In the order of edits no earlier line has priority over a later one, so none is passed over.
    for edit_id, _, action in ordered(edits):
        if action[0] == "insert" and action[1] == axis:
            behind = 0 if action[2] is None else lines.index(action[2]) + 1
            lines.insert(behind, edit_id)
    return lines
