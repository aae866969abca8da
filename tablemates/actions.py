"""The actions of calls, and the errors of calls that have none."""

from tablemates.contents import read_content, write_content
from tablemates.errors import NothingToRedo, NothingToUndo, OutOfRange, TooManyLines
from tablemates.keeping import keep_content, moved_content
from tablemates.live import neighbours
from tablemates.reading import cells_of
from tablemates.states import grid_of
from tablemates.targets import redo_target, undo_target
from tablemates.trees import is_name_word
from tablemates.wire import MOST_BLOCKS

# A line is inserted only where fewer are live.
MOST_LIVE = {"row": 12, "column": 8}
BLANK_CONTENT = ("blank",)


# What has to hold for a call is the same for a copy and for an ordinary spreadsheet, so these
# functions know no more than the size of a grid, or a grid.

def check_insert(many, axis, index):
    """Raises what an insert at an index raises where so many lines of the axis are live."""
    if not 0 <= index <= many:
        raise OutOfRange("index")
    if many >= MOST_LIVE[axis]:
        raise TooManyLines()


def check_delete(many, index):
    """Raises what a delete of the line with an index raises where so many are live."""
    if not 0 <= index < many:
        raise OutOfRange("index")


def is_block_in(rows, columns, block):
    """Whether a grid of this size has all cells of a block."""
    top, left, bottom, right = block
    return 0 <= top <= bottom < rows and 0 <= left <= right < columns


def is_cell_in(rows, columns, cell):
    """Whether a grid of this size has a cell."""
    return 0 <= cell[0] < rows and 0 <= cell[1] < columns


def written_cells(rows, columns, cell, texts):
    """The list of the tuples (cell, placed content) that rows of texts give from an upper left cell on."""
    top, left = cell
    block = (top, left, top + len(texts) - 1, left + len(texts[0]) - 1)
    if not is_block_in(rows, columns, block):
        raise OutOfRange("cell")
    found = []
    for down, row in enumerate(texts):
        for right, text in enumerate(row):
            found.append(((top + down, left + right), read_content(text, rows, columns)))
    return found


def copied_cells(grid, block, cell):
    """The list of the tuples (cell, placed content) that copying a block to a cell gives."""
    if not is_block_in(grid.rows, grid.columns, block):
        raise OutOfRange("block")
    if any([len(grid.shown(source)) > 1 for source in cells_of(block)]):
        raise OutOfRange("block")
    down = cell[0] - block[0]
    right = cell[1] - block[1]
    target = (cell[0], cell[1], block[2] + down, block[3] + right)
    if not is_block_in(grid.rows, grid.columns, target):
        raise OutOfRange("cell")
    found = []
    for row, column in cells_of(block):
        shown = grid.shown((row, column)) or [BLANK_CONTENT]
        content = moved_content(shown[0], down, right, grid.rows, grid.columns)
        # Reading raises the fault of a formula that has become too long.
        read_content(write_content(content), grid.rows, grid.columns)
        found.append(((row + down, column + right), content))
    return found


def check_name(rows, columns, word, blocks):
    """Raises what naming a word as a list of blocks raises in a grid of this size."""
    if not is_name_word(word):
        raise OutOfRange("word")
    if len(blocks) > MOST_BLOCKS or not all([is_block_in(rows, columns, block) for block in blocks]):
        raise OutOfRange("blocks")


def insert_action(view, axis, index):
    """The action of an insert of a line at an index."""
    lines = view.live(axis)
    check_insert(len(lines), axis, index)
    left, right = neighbours(lines, index)
    return ("insert", axis, left, right)


def delete_action(view, axis, index):
    """The action of a delete of the line with an index."""
    lines = view.live(axis)
    check_delete(len(lines), index)
    return ("delete", axis, lines[index])


def _write_of(view, cells):
    """The action that writes placed contents into cells."""
    rows = view.live("row")
    columns = view.live("column")
    kept = [(rows[cell[0]], columns[cell[1]], keep_content(view, content)) for cell, content in cells]
    return ("write", tuple(kept))


def write_action(view, cell, texts):
    """The action of writing rows of texts, `cell` being the upper left cell."""
    return _write_of(view, written_cells(len(view.live("row")), len(view.live("column")), cell, texts))


def copy_action(view, block, cell):
    """The action of copying a block, `cell` being the upper left cell of the copy."""
    return _write_of(view, copied_cells(grid_of(view), block, cell))


def name_action(view, word, blocks):
    """The action of naming a word as a list of blocks."""
    rows = view.live("row")
    columns = view.live("column")
    check_name(len(rows), len(columns), word, blocks)
    kept = [(rows[top], columns[left], rows[bottom], columns[right]) for top, left, bottom, right in blocks]
    return ("name", word, tuple(kept))


def undo_action(edits, person):
    """The action of the next undo of a person."""
    target = undo_target(edits, person)
    if target is None:
        raise NothingToUndo()
    return ("undo", target)


def redo_action(edits, person):
    """The action of the next redo of a person."""
    target = redo_target(edits, person)
    if target is None:
        raise NothingToRedo()
    return ("undo", target)
