"""Calls of editing on copies of a sheet, and second ways to what they show and to which edits were possible, by
the words of the document; none of this is a test.

A deed is a tuple: the name of a method of Sheet or Plain, and its arguments.
"""

import samples
import second
import tables
from tablemates.actions import (
    delete_action, insert_action, name_action, redo_action, undo_action, write_action)
from tablemates.contents import write_content
from tablemates.effects import in_force
from tablemates.errors import TableError
from tablemates.grids import Grid, same
from tablemates.sheet import Sheet
from tablemates.view import View
from tablemates.wire import write_update

PLAIN_TEXTS = ("", "", "1", "-2.5", "007", "a", "A text!", " 12", "-", "12 a", "0")
BAD_TEXTS = ("=", "=A1 +", "=Z99", "=sum()", "=x", "=(A1", "=" + "1+" * 16 + "1", "=((((((((1))))))))")


def random_text(chance, rows, columns):
    """A string for a cell of a grid; now and then one that is no content."""
    kind = chance.randrange(8)
    if kind < 3 or rows == 0 or columns == 0:
        return chance.choice(PLAIN_TEXTS)
    if kind == 3 and chance.randrange(5) == 0:
        return chance.choice(BAD_TEXTS)
    while True:
        text = "=" + samples.short_formula(chance, rows, columns)
        if len(text) <= 60:
            return text


def random_place(chance, many):
    """An index of so many lines, now and then one that is not there."""
    if chance.randrange(12) == 0:
        return chance.choice((-1, many, many + 1, many + 7))
    return chance.randrange(max(many, 1))


def random_block(chance, rows, columns):
    """A block of a grid, now and then one that is not in it."""
    if rows > 0 and columns > 0 and chance.randrange(12) > 0:
        return tables.random_block(chance, rows, columns)
    top = chance.randint(-1, rows)
    left = chance.randint(-1, columns)
    return (top, left, top + chance.randrange(3), left + chance.randrange(3))


def random_deed(chance, rows, columns, undos=True):
    """A call of editing for a grid of this size; now and then one that raises."""
    kind = chance.randrange(12 if undos else 9)
    axis = chance.choice(tables.AXES)
    many = rows if axis == "row" else columns
    if kind < 2:
        return ("insert", axis, chance.randint(0, many) if chance.randrange(9) else random_place(chance, many))
    if kind == 2:
        return ("delete", axis, random_place(chance, many))
    cell = (random_place(chance, rows), random_place(chance, columns))
    if kind < 5:
        return ("write", cell, random_text(chance, rows, columns))
    if kind == 5:
        high, wide = chance.randint(1, 3), chance.randint(1, 3)
        texts = [[random_text(chance, rows, columns) for _ in range(wide)] for _ in range(high)]
        return ("write_block", cell, texts)
    if kind == 6:
        return ("copy", random_block(chance, rows, columns), cell)
    if kind < 9:
        many = chance.choice((0, 1, 1, 1, 2, 3, 4, 5))
        word = chance.choice(tables.WORDS) if chance.randrange(12) else chance.choice(("a", "sum", "gone", "Ab"))
        return ("name", word, [random_block(chance, rows, columns) for _ in range(many)])
    return ("redo",) if kind == 11 else ("undo",)


def deed_for(chance, sheet, undos=True):
    grid = sheet.grid()
    return random_deed(chance, grid.rows, grid.columns, undos)


def outcome(thing, method, *arguments):
    """What a call returns, or the error that it raises, as a tuple."""
    try:
        return ("returns", getattr(thing, method)(*arguments))
    except TableError as error:
        return (type(error).__name__, vars(error))


def everything(sheet):
    """All that a copy tells but its person."""
    grid = sheet.grid()
    cells = second.cells_in((0, 0, grid.rows - 1, grid.columns - 1))
    return (
        sheet.begin(), sheet.edits(), sheet.version(), content_of(grid), sheet.all_values(),
        {cell: sheet.texts(cell) for cell in cells}, {cell: sheet.writers(cell) for cell in cells},
        sheet.update((0, 0, 0, 0)))


def update_of(sheet, edits):
    """The update of a copy's beginning with these edits."""
    return write_update(sheet.begin(), edits)


def content_of(grid):
    """A grid as a tuple that can be compared."""
    return (grid.rows, grid.columns, {cell: grid.shown(cell) for cell in grid.cells()},
            {word: grid.areas(word) for word in grid.words()})


class Party:
    """Three copies of one sheet whose updates are lost, sent late and sent twice."""

    def __init__(self, chance, rows, columns):
        self.chance = chance
        first = Sheet(1, rows, columns)
        self.sheets = [first] + [first.copy_for(person) for person in (2, 3)]
        # Updates that were sent: to each copy the bytes that may arrive at any time.
        self.sent = {at: [] for at in range(3)}
        self.noted = []

    def send(self):
        one, other = self.chance.sample(range(3), 2)
        version = self.chance.choice(((0, 0, 0, 0), self.sheets[other].version()))
        self.sent[other].append(self.sheets[one].update(version))

    def arrive(self):
        at = self.chance.randrange(3)
        if self.sent[at]:
            data = self.chance.choice(self.sent[at])
            if self.chance.randrange(3) > 0:
                self.sent[at].remove(data)
            self.sheets[at].take(data)

    def deed(self):
        sheet = self.chance.choice(self.sheets)
        deed = deed_for(self.chance, sheet)
        return sheet, deed, outcome(sheet, *deed)

    def note(self, sheet):
        self.noted.append((sheet.version(), sheet.edits(), content_of(sheet.grid())))

    def live_on(self, steps):
        for _ in range(steps):
            kind = self.chance.randrange(7)
            if kind < 4:
                self.note(self.deed()[0])
            elif kind == 4:
                self.send()
            elif kind == 5:
                self.arrive()

    def meet(self):
        """Each copy takes all that the others hold, in some order, and some of it twice."""
        updates = [sheet.update((0, 0, 0, 0)) for sheet in self.sheets]
        for sheet in self.sheets:
            for data in self.chance.sample(updates, 3) + [self.chance.choice(updates)]:
                sheet.take(data)


def lived(chance, steps):
    party = Party(chance, chance.randint(0, 4), chance.randint(0, 4))
    party.live_on(steps)
    return party


# Second ways.

def runs(view, seen, axis, first, last, live):
    """The longest runs of consecutive indexes of live members."""
    members = tables.members_by_words(view, seen, axis, first, last)
    indexes = sorted(live.index(line) for line in members if line in live)
    starts = [at for at in indexes if at - 1 not in indexes]
    ends = [at for at in indexes if at + 1 not in indexes]
    return list(zip(starts, ends))


def placed_areas(view, seen, area, rows, columns):
    if area[0] != "block":
        return [area]
    high = runs(view, seen, "row", area[1], area[3], rows)
    wide = runs(view, seen, "column", area[2], area[4], columns)
    found = [("block", top, left, bottom, right) for top, bottom in high for left, right in wide]
    return found or [("gone",)]


def placed(view, seen, tree, rows, columns):
    """The words of m3."""
    if tree[0] == "cell":
        if tree[1] in rows and tree[2] in columns:
            return ("cell", rows.index(tree[1]), columns.index(tree[2]))
        return ("gone",)
    if tree[0] == "neg":
        return ("neg", placed(view, seen, tree[1], rows, columns))
    if tree[0] == "op":
        return tree[:2] + tuple(placed(view, seen, part, rows, columns) for part in tree[2:])
    if tree[0] == "call":
        areas = [one for area in tree[2] for one in placed_areas(view, seen, area, rows, columns)]
        return tree[:2] + (tuple(areas),)
    return tree


def shown(edits, forced):
    """Of tuples (edit, what it tells) those that are shown, by the words of m5."""
    there = [pair for pair in edits if pair[0][0] in forced]
    return [pair for pair in tables_sorted(there)
            if not any(tables.sees(other[0], pair[0][0]) for other in there if other[0][0] != pair[0][0])]


def tables_sorted(pairs):
    return sorted(pairs, key=lambda pair: (tables.stamp_of(pair[0]), pair[0][0]))


def grid_by_words(begin, edits, forced):
    """The words of s1."""
    view = View(begin, edits, forced)
    rows = tables.live_by_words(begin, edits, "row", forced)
    columns = tables.live_by_words(begin, edits, "column", forced)
    grid = Grid(len(rows), len(columns))
    for down, row in enumerate(rows):
        for right, column in enumerate(columns):
            writes = [(edit, cell[2]) for edit in edits if edit[2][0] == "write"
                      for cell in edit[2][1] if cell[:2] == (row, column)]
            found = []
            for edit, content in shown(writes, forced):
                if content[0] == "formula":
                    content = ("formula", placed(view, edit[1], content[1], rows, columns))
                found.append(content)
            grid.put((down, right), found)
    for word in {edit[2][1] for edit in edits if edit[2][0] == "name"}:
        told = shown([(edit, edit[2][2]) for edit in edits if edit[2][:2] == ("name", word)], forced)
        if len(told) > 1:
            grid.name(word, None)
        elif told and told[0][1]:
            areas = [one for block in told[0][1]
                     for one in placed_areas(view, told[0][0][1], ("block",) + block, rows, columns)]
            grid.name(word, [area for area in areas if area != ("gone",)] or [("gone",)])
    return grid


def shows_the_words(sheet):
    """Whether a copy shows what the words of s1 say."""
    edits = sheet.edits()
    return same(sheet.grid(), grid_by_words(sheet.begin(), edits, in_force(edits)))


def calls_for(view, edits, edit):
    """Calls of s2 that might have the action of an edit, as functions without arguments."""
    rows = view.live("row")
    columns = view.live("column")
    kind, *told = edit[2]
    if kind == "insert":
        return [lambda index=index: insert_action(view, told[0], index) for index in range(100)]
    if kind == "delete":
        return [lambda index=index: delete_action(view, told[0], index) for index in range(100)]
    if kind == "undo":
        return [lambda: undo_action(edits, edit[0][0]), lambda: redo_action(edits, edit[0][0])]
    if kind == "name":
        if not all(block[at] in (columns if at % 2 else rows) for block in told[1] for at in range(4)):
            return []
        blocks = [(rows.index(block[0]), columns.index(block[1]), rows.index(block[2]), columns.index(block[3]))
                  for block in told[1]]
        return [lambda: name_action(view, told[0], blocks)]
    return write_calls(view, rows, columns, told[0])


def write_calls(view, rows, columns, cells):
    """The one write, if there is one, whose texts are those of the contents."""
    if not cells or cells[0][0] not in rows or cells[0][1] not in columns:
        return []
    texts = []
    for at, cell in enumerate(cells):
        if at == 0 or cell[0] != cells[at - 1][0]:
            texts.append([])
        try:
            texts[-1].append(write_content(by_indexes(cell[2], rows, columns)))
        except ValueError:
            return []
    if len({len(row) for row in texts}) > 1:
        return []
    return [lambda: write_action(view, (rows.index(cells[0][0]), columns.index(cells[0][1])), texts)]


def by_indexes(content, rows, columns):
    """A kept content with the indexes of its lines; raises ValueError if one is not live."""
    if content[0] != "formula":
        return content

    def tree(part):
        if part[0] == "cell":
            return ("cell", rows.index(part[1]), columns.index(part[2]))
        if part[0] == "block":
            top, left, bottom, right = part[1:]
            return ("block", rows.index(top), columns.index(left), rows.index(bottom), columns.index(right))
        if part[0] == "call":
            return part[:2] + (tuple(tree(area) for area in part[2]),)
        if part[0] in ("neg", "op"):
            return tuple(tree(one) if isinstance(one, tuple) else one for one in part)
        return part

    return ("formula", tree(content[1]))


def possible_by_calls(begin, edits, edit):
    """Whether some call has the action of the edit, on the edits that it has seen."""
    if len(edits) >= 60:
        return False
    view = View(begin, edits, in_force(edits))
    for call in calls_for(view, edits, edit):
        try:
            if call() == edit[2]:
                return True
        except TableError:
            pass
    return False


def fault_of(begin, edits):
    """What checking a list raises, by the words of s3, as a tuple; None for nothing."""
    ids = {edit[0] for edit in edits}
    line = tables.sorted_edits(edits)
    for (person, number), seen, _ in line:
        counted = [(who + 1, at) for who in range(4) for at in range(1, min(seen[who], 200) + 1)]
        fits = seen[person - 1] == number - 1 and all(one in ids for one in counted)
        if fits:
            fits = all(all(mine >= theirs for mine, theirs in zip(seen, other[1]))
                       for other in edits if other[0] in counted)
        if not fits:
            return ("MissingEdits", (person, number))
    for edit in line:
        if not possible_by_calls(begin, [other for other in edits if tables.sees(edit, other[0])], edit):
            return ("ImpossibleEdit", edit[0])
    return None
