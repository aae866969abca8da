"""Which edits were possible, and what is raised of lists of edits that no copy can hold."""

from tablemates.actions import MOST_LIVE
from tablemates.contents import read_content, write_content
from tablemates.edit import PERSONS, fits, has_seen, ordered
from tablemates.effects import in_force
from tablemates.errors import FormulaFault, ImpossibleEdit, MissingEdits, OutOfRange
from tablemates.keeping import GONE_PART, keep_content, with_tree
from tablemates.live import neighbours
from tablemates.reading import cells_of
from tablemates.targets import redo_target, undo_target
from tablemates.trees import is_name_word, mapped
from tablemates.view import View
from tablemates.wire import AXES, MOST_BLOCKS

# An edit is made only where fewer are held.
MOST_EDITS = 60


def _was_insert(view, action):
    axis, left, right = action[1:]
    lines = view.live(axis)
    if len(lines) >= MOST_LIVE[axis]:
        return False
    return any([neighbours(lines, index) == (left, right) for index in range(len(lines) + 1)])


def _was_delete(view, action):
    return view.index(action[1], action[2]) is not None


def _indexes(view, lines):
    """The indexes of line ids, rows and columns in turn; None for one that is not live."""
    return tuple([view.index(AXES[at % 2], line) for at, line in enumerate(lines)])


def _placed_content(view, content):
    """The content of which this one is kept; what has lines that are not live becomes gone in it."""

    def place(part):
        indexes = _indexes(view, part[1:])
        return GONE_PART if None in indexes else (part[0],) + indexes

    def place_area(area):
        return (place(area) if area[0] == "block" else area,)

    return with_tree(content, lambda tree: mapped(tree, place, place_area))


def _was_content(view, content):
    """Whether the content is kept from one that is read from its string."""
    placed = _placed_content(view, content)
    # What is gone only here, and a call without areas, would be kept otherwise.
    if keep_content(view, placed) != content:
        return False
    try:
        again = read_content(write_content(placed), len(view.live("row")), len(view.live("column")))
    except (FormulaFault, OutOfRange):
        return False
    return again == placed


def _was_write(view, action):
    cells = [_indexes(view, cell[:2]) for cell in action[1]]
    if cells == [] or any([None in cell for cell in cells]):
        return False
    if cells != cells_of(cells[0] + cells[-1]):
        return False
    return all([_was_content(view, cell[2]) for cell in action[1]])


def _was_block(view, block):
    indexes = _indexes(view, block)
    if None in indexes:
        return False
    top, left, bottom, right = indexes
    return top <= bottom and left <= right


def _was_name(view, action):
    word, blocks = action[1:]
    if not is_name_word(word) or len(blocks) > MOST_BLOCKS:
        return False
    return all([_was_block(view, block) for block in blocks])


WAYS = {"insert": _was_insert, "delete": _was_delete, "write": _was_write, "name": _was_name}


def possible(begin, edits, edit):
    """Whether an edit was possible on the edits that it has seen."""
    if len(edits) >= MOST_EDITS:
        return False
    person = edit[0][0]
    action = edit[2]
    if action[0] == "undo":
        return action[1] in (undo_target(edits, person), redo_target(edits, person))
    way = WAYS[action[0]]
    return way(View(begin, edits, in_force(edits)), action)


def _whole_version(edits):
    """For each person the number up to which none of their edits is missing."""
    held = {edit[0]: True for edit in edits}
    found = []
    for person in PERSONS:
        number = 0
        while (person, number + 1) in held:
            number = number + 1
        found.append(number)
    return tuple(found)


def check_more(begin, held, more):
    """Checks a valid list of edits together with others, without two of one id; the valid ones raise nothing."""
    edits = held + more
    whole = _whole_version(edits)
    for edit in ordered(more):
        if not fits(edit, edits, whole):
            raise MissingEdits(edit[0])
    for edit in ordered(more):
        seen = [other for other in edits if has_seen(edit, other)]
        if not possible(begin, seen, edit):
            raise ImpossibleEdit(edit[0])


def check(begin, edits):
    """Checks any list of edits without two of one id; raises MissingEdits or ImpossibleEdit."""
    check_more(begin, [], edits)
