"""Histories that were possible, for several tests; none of this is a test.

A Table has four persons, each with a copy of their own, who make edits and take those of others. What it
needs to know of lines it works out with functions of its own, by the words of the document: `order_by_tree`,
`live_by_words` and `members_by_words` are second ways to what the program returns.
"""

from tablemates.effects import in_force
from tablemates.view import View

AXES = ("row", "column")
PERSONS = (1, 2, 3, 4)
MOST = {"row": 12, "column": 8}
WORDS = ("ab", "total", "abcdefgh")


def stamp_of(edit):
    return 1 + sum(edit[1])


def sees(edit, other_id):
    return edit[1][other_id[0] - 1] >= other_id[1]


def sorted_edits(edits):
    return sorted(edits, key=lambda edit: (stamp_of(edit), edit[0]))


def inserts_of(edits, axis):
    return [edit for edit in edits if edit[2][:2] == ("insert", axis)]


def first_lines(begin, axis):
    return [(0, number) for number in range(1, begin[AXES.index(axis)] + 1)]


def order_by_tree(begin, edits, axis):
    """The line order: behind each line the inserts that name it as their left one, the greatest ones first."""
    below = {}
    for edit in inserts_of(edits, axis):
        below.setdefault(edit[2][2], []).append(edit)

    def branch(line):
        found = []
        for edit in sorted(below.get(line, []), key=lambda one: (stamp_of(one), one[0][0]), reverse=True):
            found += [edit[0]] + branch(edit[0])
        return found

    found = branch(None)
    for line in first_lines(begin, axis):
        found += [line] + branch(line)
    return found


def live_by_words(begin, edits, axis, forced):
    found = []
    for line in order_by_tree(begin, edits, axis):
        deletes = [edit[0] for edit in edits if edit[2] == ("delete", axis, line)]
        there = line[0] == 0 or line in forced
        if there and not any(other in forced for other in deletes):
            found.append(line)
    return found


def members_by_words(view, seen, axis, first, last):
    """The words of m2, from each line to the neighbours between which it was inserted."""
    lines = order_by_tree(view.begin, view.edits, axis)
    inserts = {edit[0]: edit[2] for edit in inserts_of(view.edits, axis)}

    def is_member(line):
        if line is None:
            return False
        if line[0] == 0 or seen[line[0] - 1] >= line[1]:
            return lines.index(first) <= lines.index(line) <= lines.index(last)
        return is_member(inserts[line][2]) and is_member(inserts[line][3])

    return [line for line in lines if is_member(line)]


def kept(tree, rows, columns):
    """A placed tree with these live lines in place of indexes."""
    if tree[0] == "cell":
        return ("cell", rows[tree[1]], columns[tree[2]])
    if tree[0] == "block":
        return ("block", rows[tree[1]], columns[tree[2]], rows[tree[3]], columns[tree[4]])
    if tree[0] == "neg":
        return ("neg", kept(tree[1], rows, columns))
    if tree[0] == "op":
        return tree[:2] + (kept(tree[2], rows, columns), kept(tree[3], rows, columns))
    if tree[0] == "call":
        return tree[:2] + (tuple(kept(area, rows, columns) for area in tree[2]),)
    return tree


def kept_content(content, rows, columns):
    return ("formula", kept(content[1], rows, columns)) if content[0] == "formula" else content


class Table:
    """Four copies of one sheet."""

    def __init__(self, rows, columns):
        self.begin = (rows, columns)
        self.made = {}
        self.held = {person: (0, 0, 0, 0) for person in PERSONS}

    def edits(self, person=None):
        """All edits, or those that a person holds."""
        if person is None:
            return list(self.made.values())
        return [edit for edit_id, edit in self.made.items() if self.held[person][edit_id[0] - 1] >= edit_id[1]]

    def view(self, person=None):
        edits = self.edits(person)
        return View(self.begin, edits, in_force(edits))

    def live(self, person, axis):
        edits = self.edits(person)
        return live_by_words(self.begin, edits, axis, in_force(edits))

    def meet(self, person, *others):
        """The person takes all that the others hold."""
        for other in others:
            self.held[person] = tuple(max(pair) for pair in zip(self.held[person], self.held[other]))

    def meet_all(self):
        for person in PERSONS:
            self.meet(person, *PERSONS)

    def add(self, person, action):
        seen = self.held[person]
        edit_id = (person, seen[person - 1] + 1)
        self.made[edit_id] = (edit_id, seen, action)
        self.held[person] = tuple(entry + (at == person - 1) for at, entry in enumerate(seen))
        return edit_id

    def insert(self, person, axis, index):
        lines = [None] + self.live(person, axis) + [None]
        return self.add(person, ("insert", axis, lines[index], lines[index + 1]))

    def delete(self, person, axis, index):
        return self.add(person, ("delete", axis, self.live(person, axis)[index]))

    def write(self, person, cell, *contents):
        """Writes rows of placed contents, or one content."""
        rows = self.live(person, "row")
        columns = self.live(person, "column")
        block = contents if contents and isinstance(contents[0], list) else [list(contents)]
        cells = []
        for down, row in enumerate(block):
            for right, content in enumerate(row):
                line = (rows[cell[0] + down], columns[cell[1] + right])
                cells.append(line + (kept_content(content, rows, columns),))
        return self.add(person, ("write", tuple(cells)))

    def name(self, person, word, *blocks):
        rows = self.live(person, "row")
        columns = self.live(person, "column")
        told = [(rows[top], columns[left], rows[bottom], columns[right]) for top, left, bottom, right in blocks]
        return self.add(person, ("name", word, tuple(told)))

    def undo(self, person, number):
        return self.add(person, ("undo", number))


def random_block(chance, rows, columns):
    top = chance.randrange(rows)
    left = chance.randrange(columns)
    return (top, left, chance.randrange(top, rows), chance.randrange(left, columns))


def random_area(chance, rows, columns):
    kind = chance.randrange(4)
    if kind == 0:
        return ("gone",)
    if kind == 1:
        return ("name", chance.choice(WORDS))
    return ("block",) + random_block(chance, rows, columns)


def random_tree(chance, rows, columns, deep):
    """A placed tree for a grid that has cells."""
    kind = chance.randrange(7 if deep > 0 else 4)
    if kind == 0:
        return ("num", chance.choice(((0, 1), (1, 2), (7, 1), (12, 1), (999999999999, 1), (1, 1000000))))
    if kind in (1, 2):
        return ("cell", chance.randrange(rows), chance.randrange(columns))
    if kind == 3:
        return chance.choice((("gone",), ("num", (3, 1)), ("num", (2, 1))))
    if kind == 4:
        areas = tuple(random_area(chance, rows, columns) for _ in range(chance.randint(1, 3)))
        return ("call", chance.choice(("sum", "count", "min", "max")), areas)
    if kind == 5:
        return ("neg", random_tree(chance, rows, columns, deep - 1))
    left = random_tree(chance, rows, columns, deep - 1)
    return ("op", chance.choice("+-*/"), left, random_tree(chance, rows, columns, deep - 1))


def random_content(chance, rows, columns, deep=2):
    kind = chance.randrange(6)
    if kind == 0:
        return ("blank",)
    if kind == 1:
        return ("text", chance.choice(("a", "A text!", " 12")))
    if kind == 2:
        return ("number", chance.choice(((0, 1), (-1, 2), (3, 1), (40, 1), (-7, 1))))
    return ("formula", random_tree(chance, rows, columns, deep))


def random_write(chance, table, person):
    rows = len(table.live(person, "row"))
    columns = len(table.live(person, "column"))
    top, left, bottom, right = random_block(chance, rows, columns)
    block = [[random_content(chance, rows, columns) for _ in range(left, right + 1)[:2]]
             for _ in range(top, bottom + 1)[:2]]
    table.write(person, (top, left), *block)


def random_undo(chance, table, person):
    """The next undo or redo of the person, if there is one, by two stacks of what can be taken back."""
    undos, redos = stacks(table.edits(person), person)
    chosen = chance.choice((undos, redos))
    if chosen:
        table.undo(person, chosen[-1])


def stacks(edits, person):
    """What can be undone, and the undos that can be redone, the next ones last."""
    undos = []
    redos = []
    own = sorted(edit for edit in edits if edit[0][0] == person)
    for edit_id, _, action in own:
        number = edit_id[1]
        if action[0] != "undo":
            undos.append(number)
            redos = []
        elif action[1] in undos:
            assert undos.pop() == action[1]
            redos.append(number)
        else:
            assert redos.pop() == action[1]
            undos.append([edit for edit in own if edit[0][1] == action[1]][0][2][1])
    return undos, redos


def random_step(chance, table, person):
    """One random edit of a person, of a kind that is possible just then."""
    rows = len(table.live(person, "row"))
    columns = len(table.live(person, "column"))
    kind = chance.randrange(8)
    axis = chance.choice(AXES)
    many = rows if axis == "row" else columns
    if kind in (0, 1) and many < MOST[axis]:
        table.insert(person, axis, chance.randint(0, many))
    elif kind == 2 and many > 0:
        table.delete(person, axis, chance.randrange(many))
    elif kind in (3, 4) and rows > 0 and columns > 0:
        random_write(chance, table, person)
    elif kind == 5 and rows > 0 and columns > 0:
        blocks = [random_block(chance, rows, columns) for _ in range(chance.randrange(4))]
        table.name(person, chance.choice(WORDS), *blocks)
    elif kind > 5:
        random_undo(chance, table, person)


def random_table(chance, many, begin=None):
    """A table on which about so many edits were made, some of them apart."""
    table = Table(*(begin or (chance.randint(0, 4), chance.randint(0, 4))))
    for _ in range(many):
        person = chance.choice(PERSONS)
        if chance.randrange(2) == 0:
            table.meet(person, chance.choice(PERSONS))
        random_step(chance, table, person)
    return table


def mixed(chance, edits):
    """The list in another order."""
    return chance.sample(edits, len(edits))


def random_order(chance, edits):
    """The list in some order in which each edit comes behind all that it has seen."""
    rest = sorted_edits(edits)
    found = []
    while rest:
        ready = [edit for edit in rest if not any(sees(edit, other[0]) for other in rest)]
        edit = chance.choice(ready)
        rest.remove(edit)
        found.append(edit)
    return found
