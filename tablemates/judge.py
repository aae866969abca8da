"""The judge, who accepts or rejects a paper in going through it once."""

from tablemates.actions import is_block_in, is_cell_in
from tablemates.contents import read_content, write_content
from tablemates.errors import FormulaFault, WrongPaper
from tablemates.evaluation import value_from
from tablemates.grids import Grid
from tablemates.paper import value_text
from tablemates.reading import cells_read
from tablemates.rings import RING
from tablemates.trees import GONE, is_name_word

MOST_OF_SIZE = 99

# The parts of a paper, as a fault tells them.
SIZES = 0
NAMES = 1
RINGS = 2
ENTRIES = 3


# A paper comes from anybody: what should be a cell may be any tuple.

def _are_integers(parts):
    return all([isinstance(part, int) for part in parts])


def _cell_of(part):
    """A tuple that tells a cell, None if this one tells none."""
    return part if isinstance(part, tuple) and len(part) == 2 and _are_integers(part) else None


def _entry_cell(entry):
    return _cell_of(entry[:2]) if isinstance(entry, tuple) and len(entry) == 4 else None


def _ring_cells(ring):
    """The cells of a ring, None in the place of what tells none."""
    return [_cell_of(part) for part in ring] if isinstance(ring, list) else []


def _is_size(n):
    return isinstance(n, int) and 0 <= n <= MOST_OF_SIZE


def _is_area(area, rows, columns):
    if area == (GONE,):
        return True
    if not isinstance(area, tuple) or len(area) != 5 or area[0] != "block":
        return False
    return _are_integers(area[1:]) and is_block_in(rows, columns, area[1:])


def _are_areas(areas, rows, columns):
    """Whether a name can have these areas in a grid of this size; None is a clash."""
    if areas is None:
        return True
    return isinstance(areas, tuple) and areas != () and all([_is_area(area, rows, columns) for area in areas])


def _read_again(text, rows, columns):
    """The content that is written as this string, None if there is none."""
    if not isinstance(text, str):
        return None
    try:
        content = read_content(text, rows, columns)
    except FormulaFault:
        return None
    return content if write_content(content) == text else None


class Hearing:
    """What the judge knows of a paper: what is told anywhere in it, and the values up to some entry."""

    def __init__(self, rows, columns, rings, entries):
        self.table = Grid(rows, columns)
        # The values of the entries so far.
        self.known = {}
        self.ringed = {cell: True for ring in rings for cell in _ring_cells(ring) if cell is not None}
        self.told = {_entry_cell(entry): True for entry in entries}
        # The number of the run of each entry, and the cells that have an entry in a run.
        self.runs = []
        self.in_run = {}
        self._tell_runs(entries)

    def _tell_runs(self, entries):
        run = 0
        for entry in entries:
            cell = _entry_cell(entry)
            if cell in self.ringed:
                self.in_run[(run, cell)] = True
            else:
                run = run + 1
            self.runs.append(run)

    def takes_name(self, told, before):
        """Whether a name is right behind the word before it; puts it into the grid."""
        if not isinstance(told, tuple) or len(told) != 2 or not isinstance(told[0], str):
            return False
        word, areas = told
        if not is_name_word(word) or (before is not None and word <= before):
            return False
        if not _are_areas(areas, self.table.rows, self.table.columns):
            return False
        self.table.name(word, areas)
        return True

    def _contents(self, texts):
        """The contents that the strings of an entry stand for, None if they are no such strings."""
        if not isinstance(texts, tuple) or texts in ((), ("",)):
            return None
        contents = [_read_again(text, self.table.rows, self.table.columns) for text in texts]
        return None if None in contents else contents

    def _may_read(self, at, cell, other):
        """Whether the cell of this entry may read the other one."""
        if other in self.known or other not in self.told:
            return True
        return cell in self.ringed and (self.runs[at], other) in self.in_run

    def takes_entry(self, at, entry):
        """Whether an entry is right behind those before it; takes its value as known."""
        cell = _entry_cell(entry)
        if cell is None or not is_cell_in(self.table.rows, self.table.columns, cell) or cell in self.known:
            return False
        contents = self._contents(entry[2])
        if contents is None:
            return False
        self.table.put(cell, contents)
        if not all([self._may_read(at, cell, other) for other in cells_read(self.table, cell)]):
            return False
        self.known[cell] = RING if cell in self.ringed else value_from(self.table, cell, self.known)
        return value_text(self.known[cell]) == entry[3]

    def takes_ring(self, ring):
        """Whether a ring is right, all entries being known."""
        cells = _ring_cells(ring)
        if cells == [] or not all([cell in self.known for cell in cells]) or len(set(cells)) < len(cells):
            return False
        following = cells[1:] + cells[:1]
        return all([other in cells_read(self.table, cell) for cell, other in zip(cells, following)])


def _fault_and_grid(paper):
    """The first fault of a paper, None if it is right, and the grid that it tells."""
    rows, columns, names, rings, entries = paper
    if not (_is_size(rows) and _is_size(columns)):
        return ((SIZES, 0), None)
    hearing = Hearing(rows, columns, rings, entries)
    before = None
    for at, told in enumerate(names):
        if not hearing.takes_name(told, before):
            return ((NAMES, at), None)
        before = told[0]
    for at, entry in enumerate(entries):
        if not hearing.takes_entry(at, entry):
            return ((ENTRIES, at), None)
    for at, ring in enumerate(rings):
        if not hearing.takes_ring(ring):
            return ((RINGS, at), None)
    return (None, hearing.table)


def judge(paper):
    """None if the paper is right, otherwise the tuple (part, index) of its first fault."""
    return _fault_and_grid(paper)[0]


def grid_of(paper):
    """The grid of a right paper; raises WrongPaper with the index of the first fault."""
    fault, grid = _fault_and_grid(paper)
    if fault is not None:
        raise WrongPaper(fault[1])
    return grid
