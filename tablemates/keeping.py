"""How trees, contents and blocks are kept by line ids, placed by indexes again, and moved."""

from tablemates.members import segments
from tablemates.trees import mapped

# A cell, an area or the areas of a name that are no longer there.
GONE_PART = ("gone",)


def with_tree(content, changed):
    """The content with the tree that the function `changed` returns for its own, if it has one."""
    return ("formula", changed(content[1])) if content[0] == "formula" else content


def keep_tree(view, tree):
    """What is kept of a placed tree: line ids in place of indexes."""
    rows = view.live("row")
    columns = view.live("column")

    def keep_cell(cell):
        return ("cell", rows[cell[1]], columns[cell[2]])

    def keep_area(area):
        if area[0] != "block":
            return (area,)
        return (("block", rows[area[1]], columns[area[2]], rows[area[3]], columns[area[4]]),)

    return mapped(tree, keep_cell, keep_area)


def keep_content(view, content):
    """What is kept of a placed content."""
    return with_tree(content, lambda tree: keep_tree(view, tree))


def _place_cell(view, cell):
    row = view.index("row", cell[1])
    column = view.index("column", cell[2])
    return GONE_PART if row is None or column is None else ("cell", row, column)


def _place_block(view, seen, block):
    """The list of the blocks in which the live lines of a kept block lie."""
    top, left, bottom, right = block
    found = []
    across = segments(view, seen, "column", left, right)
    for first, last in segments(view, seen, "row", top, bottom):
        found.extend([("block", first, start, last, end) for start, end in across])
    return found


def place_tree(view, seen, tree):
    """A kept tree of an edit with the version `seen`, as a placed one."""

    def place_area(area):
        if area[0] != "block":
            return (area,)
        return tuple(_place_block(view, seen, area[1:])) or (GONE_PART,)

    return mapped(tree, lambda cell: _place_cell(view, cell), place_area)


def place_content(view, seen, content):
    """A kept content of an edit with the version `seen`, as a placed one."""
    return with_tree(content, lambda tree: place_tree(view, seen, tree))


def place_blocks(view, seen, blocks):
    """The list of the areas of a name that an edit with the version `seen` told as these blocks."""
    found = []
    for block in blocks:
        found.extend(_place_block(view, seen, block))
    return [GONE_PART] if found == [] else found


def _moved_corners(part, down, right, rows, columns):
    """A cell or a block, moved; what is gone if a corner of it is then outside of the grid."""
    found = [part[0]]
    for row, column in zip(part[1::2], part[2::2]):
        if not (0 <= row + down < rows and 0 <= column + right < columns):
            return GONE_PART
        found.extend((row + down, column + right))
    return tuple(found)


def moved_tree(tree, down, right, rows, columns):
    """A placed tree, moved by so many rows and columns in a grid of this size."""

    def moved_area(area):
        if area[0] != "block":
            return (area,)
        return (_moved_corners(area, down, right, rows, columns),)

    return mapped(tree, lambda cell: _moved_corners(cell, down, right, rows, columns), moved_area)


def moved_content(content, down, right, rows, columns):
    """A placed content, moved likewise."""
    return with_tree(content, lambda tree: moved_tree(tree, down, right, rows, columns))
