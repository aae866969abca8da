"""Papers for several tests, and second ways to the paper of a grid and to the judge, by the words of the document;
none of this is a test.
"""

import second
from tablemates.contents import read_content, write_content
from tablemates.decimals import show
from tablemates.errors import FormulaFault
from tablemates.grids import Grid
from tablemates.trees import is_name_word


def told(value):
    """The string of a value."""
    if value[0] == "text":
        return "'" + value[1]
    return show(value[1]) if value[0] == "number" else "!" + value[1]


def reach(reads, start):
    """All cells to which one or more steps lead."""
    found = set()
    waiting = [start]
    while waiting:
        for other in reads.get(waiting.pop(), []):
            if other not in found:
                found.add(other)
                waiting.append(other)
    return found


def paper_by_words(grid):
    """The words of p2."""
    values = second.values(grid)
    reads = {cell: second.reads(grid, cell) for cell in grid.cells()}
    reached = {cell: reach(reads, cell) for cell in reads}
    rings = []
    for cell in sorted(reads):
        if cell in reached[cell] and not any(cell in ring for ring in rings):
            rings.append(second.ring(grid, cell))
    knots = []
    for cell in sorted(reads):
        knot = sorted({cell} | {other for other in reached[cell] if cell in reached.get(other, ())})
        if knot not in knots:
            knots.append(knot)
    entries = []
    done = []
    while knots:
        ready = [knot for knot in knots
                 if all(other in done or other in knot or other not in reads for cell in knot for other in reads[cell])]
        knot = min(ready)
        knots.remove(knot)
        for cell in knot:
            texts = tuple(write_content(one) for one in grid.shown(cell))
            entries.append(cell + (texts, told(values[cell])))
        done += knot
    names = [(word, None if grid.areas(word) is None else tuple(grid.areas(word))) for word in sorted(grid.words())]
    return (grid.rows, grid.columns, names, rings, entries)


def content_again(text, rows, columns):
    """The content of a string that is written so, None if it is none."""
    try:
        content = read_content(text, rows, columns)
    except FormulaFault:
        return None
    return content if write_content(content) == text else None


def is_in(rows, columns, cell):
    return 0 <= cell[0] < rows and 0 <= cell[1] < columns


def is_area(area, rows, columns):
    if area == ("gone",):
        return True
    top, left, bottom, right = area[1:]
    return is_in(rows, columns, (top, left)) and is_in(rows, columns, (bottom, right)) and top <= bottom and left <= right


def judge_by_words(paper):
    """The words of p3, for papers in which all tuples have the right length."""
    rows, columns, names, rings, entries = paper
    if not 0 <= rows <= 99 or not 0 <= columns <= 99:
        return (0, 0)
    grid = Grid(rows, columns)
    for at, (word, areas) in enumerate(names):
        if not is_name_word(word) or (at > 0 and not names[at - 1][0] < word):
            return (1, at)
        if areas is not None and (not areas or not all(is_area(area, rows, columns) for area in areas)):
            return (1, at)
        grid.name(word, areas)
    cells = [entry[:2] for entry in entries]
    ringed = {cell for ring in rings for cell in ring}
    known = {}
    for at, (row, column, texts, value) in enumerate(entries):
        cell = (row, column)
        if not is_in(rows, columns, cell) or cell in cells[:at] or texts in ((), ("",)):
            return (3, at)
        contents = [content_again(text, rows, columns) for text in texts]
        if None in contents:
            return (3, at)
        grid.put(cell, contents)
        for other in second.reads(grid, cell):
            if other in cells and other not in cells[:at] and not in_one_run(cells, ringed, at, other):
                return (3, at)
        known[cell] = value_by_words(grid, cell, contents, known, ringed)
        if told(known[cell]) != value:
            return (3, at)
    for at, ring in enumerate(rings):
        if not ring or len(set(ring)) < len(ring) or not all(cell in cells for cell in ring):
            return (2, at)
        if not all(other in second.reads(grid, cell) for cell, other in zip(ring, ring[1:] + ring[:1])):
            return (2, at)
    return None


def in_one_run(cells, ringed, at, other):
    """Whether the entry at this index and some entry of the other cell stand in one run."""
    if cells[at] not in ringed:
        return False
    for place, cell in enumerate(cells):
        if cell == other and all(one in ringed for one in cells[min(at, place):max(at, place) + 1]):
            return True
    return False


def value_by_words(grid, cell, contents, known, ringed):
    if cell in ringed:
        return second.fault("ring")
    if len(contents) > 1:
        return second.fault("clash")
    if contents[0][0] != "formula":
        return contents[0]
    return second.tree_value(contents[0][1], known, second.names_of(grid))


def is_right(paper):
    """The words of p4: whether the paper tells some grid and its values."""
    rows, columns, names, rings, entries = paper
    grid = Grid(rows, columns)
    for word, areas in names:
        grid.name(word, areas)
    for row, column, texts, _ in entries:
        contents = [content_again(text, rows, columns) for text in texts]
        if None in contents or contents in ([], [("blank",)]) or not is_in(rows, columns, (row, column)):
            return False
        grid.put((row, column), contents)
    cells = [entry[:2] for entry in entries]
    values = second.values(grid)
    if sorted(cells) != grid.cells() or any(told(values[entry[:2]]) != entry[3] for entry in entries):
        return False
    ringed = sorted({cell for ring in rings for cell in ring})
    if ringed != [cell for cell in grid.cells() if second.ring(grid, cell)]:
        return False
    for ring in rings:
        steps = zip(ring, ring[1:] + ring[:1])
        if not ring or len(set(ring)) < len(ring) or not all(other in second.reads(grid, cell) for cell, other in steps):
            return False
    for at, cell in enumerate(cells):
        for other in second.reads(grid, cell):
            if other in cells[at:] and not in_one_run(cells, ringed, at, other):
                return False
    return True


TEXTS = ("1", "-2.5", "a", " 12", "=A1", "=B2 + A1", "=sum(A1:B2)", "=count(A1:C3)", "=sum(ab)", "=max(total, B1)",
         "=C1", "=B1", "=A2", "=A3 / B3", "=gone", "=1 / 0", "=-A1", "=C3 * 2", "=min(gone, A1)", "=C2 - B1")


def random_grid(chance):
    """A grid with texts, numbers, formulas, clashes, rings, knots and names."""
    if chance.randrange(3) == 0:
        rows, columns = chance.randint(1, 5), chance.randint(1, 4)
        return second.random_grid(chance, rows, columns, chance.randint(0, rows * columns))
    grid = Grid(3, 3)
    for _ in range(chance.randint(0, 12)):
        many = 1 if chance.randrange(8) else 2
        texts = [chance.choice(TEXTS) for _ in range(many)]
        grid.put((chance.randrange(3), chance.randrange(3)), [read_content(text, 3, 3) for text in texts])
    for word in ("ab", "total"):
        if chance.randrange(2):
            grid.name(word, second.random_areas(chance, 3, 3))
    return grid


def other_text(chance, text):
    return chance.choice(TEXTS + ("", text + " ", "= A1", "=x", "=Z9", "07", "=A1+B1", "=(A1)", "=A1:B2", "0", text))


def other_value(chance, value):
    return chance.choice(("0", "1", "-5/2", "'a", "'", "", "!ring", "!clash", "!gone", "!none", "2/2", value + " "))


def other_area(chance):
    return chance.choice((("gone",), ("block", 0, 0, 9, 9), ("block", 1, 0, 0, 0), ("block", 0, 1, 0, 0),
                          ("block", 0, 0, 0, 0), ("block", -1, 0, 0, 0), ("block", 0, 0, 1, 1)))


def changed_list(chance, items, change):
    """The list with one of its items changed, left out, moved or doubled."""
    found = list(items)
    if not found:
        return found
    at = chance.randrange(len(found))
    way = chance.randrange(4)
    if way == 0:
        found[at] = change(found[at])
    elif way == 1:
        del found[at]
    elif way == 2:
        found.insert(chance.randrange(len(found)), found.pop(at))
    else:
        found.insert(chance.randint(0, len(found)), found[at])
    return found


def changed_entry(chance, entry):
    row, column, texts, value = entry
    way = chance.randrange(4)
    if way == 0:
        return (chance.randint(-1, 3), chance.randint(0, 3), texts, value)
    if way == 1:
        return (row, column, tuple(changed_list(chance, texts, lambda text: other_text(chance, text))), value)
    if way == 2:
        return (column, row, texts, value)
    return (row, column, texts, other_value(chance, value))


def changed_name(chance, name):
    word, areas = name
    way = chance.randrange(3)
    if way == 0 or areas is None:
        return (chance.choice(("sum", "a", "zz", "aa", "Ab", "total", "gone", "ab")), areas)
    if way == 1:
        return (word, tuple(changed_list(chance, areas, lambda area: other_area(chance))))
    return (word, chance.choice((None, (), areas + (other_area(chance),))))


def changed_ring(chance, ring):
    way = chance.randrange(3)
    if way == 0:
        return ring[1:] + ring[:1]
    if way == 1 and len(ring) > 1:
        return chance.sample(ring, len(ring))
    return changed_list(chance, ring, lambda cell: (chance.randrange(4), chance.randrange(4)))


def changed(chance, paper):
    """The paper with a size, a name, a ring or an entry changed, left out, moved or doubled."""
    rows, columns, names, rings, entries = paper
    kind = chance.randrange(9)
    if kind == 0:
        rows = chance.choice((-1, 0, rows - 1, rows + 1, 99, 100))
    elif kind == 1:
        columns = chance.choice((-1, 0, columns - 1, columns + 1, 99, 100))
    elif kind < 4 and names:
        names = changed_list(chance, names, lambda name: changed_name(chance, name))
    elif kind == 4 and rings:
        rings = changed_list(chance, rings, lambda ring: changed_ring(chance, ring))
    elif kind == 5:
        extra = [(chance.randrange(3), chance.randrange(3)) for _ in range(chance.randrange(3))]
        rings = rings + [extra]
    elif entries:
        entries = changed_list(chance, entries, lambda entry: changed_entry(chance, entry))
    return (rows, columns, names, rings, entries)
