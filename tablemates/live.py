"""The lines that are there at a time."""

from tablemates.orders import line_order


def is_first_line(line):
    """Whether a line is one of the beginning."""
    return line[0] == 0


def live_lines(begin, edits, axis, forced):
    """The list of the live lines of the axis, in the line order; `forced` are the ids in force."""
    standing = {edit_id: True for edit_id in forced}
    deleted = {}
    for edit_id, _, action in edits:
        if edit_id in standing and action[0] == "delete" and action[1] == axis:
            deleted[action[2]] = True
    lines = [line for line in line_order(begin, edits, axis) if line not in deleted]
    return [line for line in lines if is_first_line(line) or line in standing]


def neighbours(lines, index):
    """The items directly before and behind a place in a list, None at an edge."""
    before = lines[index - 1] if index > 0 else None
    behind = lines[index] if index < len(lines) else None
    return (before, behind)
