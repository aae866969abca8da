"""Cells that depend on themselves, their rings, and the values of a grid: v6 and v7."""

import copy
import random
import unittest

import second
from second import at, fault, number
from tablemates.evaluation import value_from
from tablemates.grids import Grid
from tablemates.rings import ring_cells, ring_of, values_of


def linked_grid(chance, rows, columns):
    """A grid in which nearly each cell reads one or two others."""
    grid = Grid(rows, columns)
    for cell in second.cells_in((0, 0, rows - 1, columns - 1)):
        tree = ("cell", chance.randrange(rows), chance.randrange(columns))
        if chance.randrange(3) == 0:
            tree = ("op", "+", tree, ("cell", chance.randrange(rows), chance.randrange(columns)))
        grid.put(cell, [("formula", tree) if chance.randrange(8) > 0 else number(1)])
    return grid


def addresses(text):
    return [at(address) for address in text.split()]


class Rings(unittest.TestCase):
    def check(self, texts, names=None, size=(4, 4), **rings):
        """`rings` tells for each cell that depends on itself the addresses of its ring."""
        grid = second.grid(*size, texts, names)
        self.assertEqual(ring_cells(grid), sorted(at(address) for address in rings))
        for cell in second.cells_in((0, 0, size[0] - 1, size[1] - 1)):
            want = [addresses(ring) for address, ring in rings.items() if at(address) == cell]
            self.assertEqual(ring_of(grid, cell), want[0] if want else None)
            self.assertEqual(second.ring(grid, cell), want[0] if want else None)

    def test_v6_no_ring(self):
        self.check({})
        self.check({"A1": "=B1", "B1": "=C1 + C1", "C1": "2", "D1": "=sum(A1:C1)"})

    def test_v6_a_cell_that_reads_itself(self):
        self.check({"B2": "=B2"}, B2="B2")
        self.check({"B2": "=1 + sum(A1:C3)"}, B2="B2")

    def test_v6_two_cells(self):
        self.check({"A1": "=B2", "B2": "=A1 + 1"}, A1="A1 B2", B2="B2 A1")

    def test_v6_three_cells(self):
        self.check({"A1": "=B1", "B1": "=C1", "C1": "=A1"}, A1="A1 B1 C1", B1="B1 C1 A1", C1="C1 A1 B1")

    def test_v6_a_long_ring(self):
        texts = {"%s%d" % (letter, row): "=" for letter in "ABCD" for row in range(1, 5)}
        row = list(texts)
        for one, other in zip(row, row[1:] + row[:1]):
            texts[one] = "=" + other
        rings = {one: " ".join(row[k:] + row[:k]) for k, one in enumerate(row)}
        self.check(texts, **rings)

    def test_v6_cells_that_read_a_ring_without_standing_in_one(self):
        self.check({"A1": "=B1", "B1": "=A1", "C1": "=A1 + 1", "D1": "=C1"}, A1="A1 B1", B1="B1 A1")

    def test_v6_cells_that_a_ring_reads(self):
        self.check({"A1": "=B1 + C1", "B1": "=A1", "C1": "=D1", "D1": "1"}, A1="A1 B1", B1="B1 A1")

    def test_v6_a_cell_between_two_rings(self):
        self.check({"A1": "=A1 + B1", "B1": "=C1", "C1": "=C1"}, A1="A1", C1="C1")

    def test_v6_the_shortest_of_several(self):
        self.check({"A1": "=B1", "B1": "=C1 + D4", "C1": "=A1", "D4": "=D3", "D3": "=A1"},
                   A1="A1 B1 C1", B1="B1 C1 A1", C1="C1 A1 B1", D3="D3 A1 B1 D4", D4="D4 D3 A1 B1")
        self.check({"A1": "=B1 + A1", "B1": "=A1"}, A1="A1", B1="B1 A1")

    def test_v6_the_first_of_several_shortest_ones(self):
        self.check({"A1": "=D1 + C1 + B1", "B1": "=A1", "C1": "=A1", "D1": "=A1"},
                   A1="A1 B1", B1="B1 A1", C1="C1 A1", D1="D1 A1")

    def test_v6_the_first_one_is_found_where_its_first_cells_do_not_lead_back_soonest(self):
        # From A1 the cell B1 comes first, but it leads back in three steps, C1 in two.
        self.check({"A1": "=B1 + C1", "B1": "=B2", "B2": "=C2", "C2": "=A1", "C1": "=D1", "D1": "=A1"},
                   A1="A1 C1 D1", B1="B1 B2 C2 A1", B2="B2 C2 A1 B1", C1="C1 D1 A1", C2="C2 A1 B1 B2", D1="D1 A1 C1")

    def test_v6_equal_rings_that_part_late(self):
        self.check({"A1": "=B1", "B1": "=D3 + C2 + D2", "C2": "=A1", "D2": "=A1", "D3": "=A1"},
                   A1="A1 B1 C2", B1="B1 C2 A1", C2="C2 A1 B1", D2="D2 A1 B1", D3="D3 A1 B1")

    def test_v6_rows_come_before_columns_in_the_order_of_lists(self):
        self.check({"A1": "=A2 + B1", "A2": "=A1", "B1": "=A1"}, A1="A1 B1", A2="A2 A1", B1="B1 A1")

    def test_v6_through_areas(self):
        self.check({"A1": "=sum(B1:C2)", "B2": "=count(A1)"}, A1="A1 B2", B2="B2 A1")

    def test_v6_through_names(self):
        names = {"ab": [("gone",), ("block", 0, 1, 1, 1)], "clash": None}
        self.check({"A1": "=max(ab)", "B2": "=A1"}, names, A1="A1 B2", B2="B2 A1")
        self.check({"A1": "=max(clash)", "B2": "=A1"}, names)
        self.check({"A1": "=max(never)", "B2": "=A1"}, names)

    def test_v6_a_clash_stands_in_no_ring(self):
        self.check({"A1": "=B1", "B1": ["=A1", "=A1"]})
        self.check({"A1": ["=A1", "2"]})
        self.check({"A1": "=B1", "B1": "A1"})

    def test_v6_a_grid_without_cells(self):
        for size in ((0, 0), (0, 3), (3, 0)):
            grid = Grid(*size)
            self.assertEqual(ring_cells(grid), [])
            self.assertIsNone(ring_of(grid, (0, 0)))

    def test_v6_random_grids(self):
        lengths = set()
        for start in range(300):
            chance = random.Random(start)
            grid = second.random_grid(chance, 3, 3, 12) if start < 100 else linked_grid(chance, 3, 4)
            want = [cell for cell in grid.cells() if second.ring(grid, cell)]
            self.assertEqual(ring_cells(grid), want)
            for cell in second.cells_in((0, 0, 2, 2)):
                self.assertEqual(ring_of(grid, cell), second.ring(grid, cell))
            lengths.update(len(second.ring(grid, cell)) for cell in want)
        self.assertLessEqual({1, 2, 3, 4, 5, 6}, lengths)

    def test_basics_results_are_new(self):
        grid = second.grid(2, 2, {"A1": "=A1"})
        before = copy.deepcopy(vars(grid))
        ring_cells(grid).clear()
        ring_of(grid, (0, 0)).clear()
        values_of(grid).clear()
        self.assertEqual(ring_cells(grid), [(0, 0)])
        self.assertEqual(ring_of(grid, (0, 0)), [(0, 0)])
        self.assertEqual(vars(grid), before)


class Values(unittest.TestCase):
    def check(self, texts, want, names=None):
        grid = second.grid(4, 4, texts, names)
        self.assertEqual(values_of(grid), {at(address): value for address, value in want.items()})

    def test_v7_a_grid_without_a_cell_that_is_not_blank(self):
        self.check({}, {})
        self.check({"A1": "", "B2": []}, {})
        self.assertEqual(values_of(Grid(0, 0)), {})

    def test_v7_texts_numbers_and_clashes(self):
        self.check({"A1": "a", "B1": "1.5", "C1": ["1", "1"], "D1": "=C1"},
                   {"A1": ("text", "a"), "B1": number(3, 2), "C1": fault("clash"), "D1": fault("clash")})

    def test_v7_chains_in_whatever_order_the_cells_stand(self):
        self.check({"A1": "=B1 + 1", "B1": "=C1 + 1", "C1": "=D1 + 1", "D1": "1", "D2": "=A1 * A1"},
                   {"A1": number(4), "B1": number(3), "C1": number(2), "D1": number(1), "D2": number(16)})

    def test_v7_a_cell_reads_another_one_over_two_ways(self):
        self.check({"A1": "=B1 + C1 + D1", "B1": "=C1 + D1", "C1": "=D1", "D1": "1"},
                   {"A1": number(4), "B1": number(2), "C1": number(1), "D1": number(1)})

    def test_v7_blank_cells_are_not_told(self):
        self.check({"A1": "=B1 + sum(A2:D4)"}, {"A1": number(0)})

    def test_v7_cells_that_depend_on_themselves(self):
        self.check({"A1": "=A1"}, {"A1": fault("ring")})
        self.check({"A1": "=B1", "B1": "=A1 * 0 + gone"}, {"A1": fault("ring"), "B1": fault("ring")})

    def test_v7_cells_that_read_a_ring(self):
        self.check({"A1": "=B1", "B1": "=A1", "C1": "=A1 + 1", "D1": "=count(C1)", "D2": "=gone + A1", "D3": "=1"},
                   {"A1": fault("ring"), "B1": fault("ring"), "C1": fault("ring"), "D1": fault("ring"),
                    "D2": fault("gone"), "D3": number(1)})

    def test_v7_a_cell_that_a_ring_reads(self):
        self.check({"A1": "=A1 + B1", "B1": "=C1 * 2", "C1": "4"},
                   {"A1": fault("ring"), "B1": number(8), "C1": number(4)})

    def test_v7_names(self):
        self.check({"A1": "1", "A2": "x", "B1": "=sum(ab)", "B2": "=sum(cd)", "B3": "=sum(ef)", "B4": "=sum(gh)"},
                   {"A1": number(1), "A2": ("text", "x"), "B1": number(1), "B2": fault("clash"),
                    "B3": fault("unknown"), "B4": fault("gone")},
                   {"ab": [("block", 0, 0, 1, 0)], "cd": None, "gh": [("gone",)]})

    def test_v7_faults_are_passed_on(self):
        self.check({"A1": "=1 / 0", "B1": "=A1", "C1": "=-B1", "D1": "=min(A1:C1)"},
                   {"A1": fault("zero"), "B1": fault("zero"), "C1": fault("zero"), "D1": fault("zero")})

    def test_v7_a_long_chain(self):
        grid = Grid(99, 8)
        cells = second.cells_in((0, 0, 98, 7))
        for one, other in zip(cells, cells[1:]):
            grid.put(one, [("formula", ("op", "+", ("cell",) + other, ("num", (1, 1))))])
        grid.put(cells[-1], [number(1)])
        values = values_of(grid)
        self.assertEqual(values[(0, 0)], number(len(cells)))
        grid.put(cells[-1], [("formula", ("cell", 0, 0))])
        self.assertEqual(ring_cells(grid), cells)
        self.assertEqual(ring_of(grid, cells[5]), cells[5:] + cells[:5])

    def test_v7_random_grids(self):
        for start in range(400):
            chance = random.Random(start)
            grid = second.random_grid(chance, 4, 3, 10) if start < 250 else linked_grid(chance, 3, 4)
            values = values_of(grid)
            self.assertEqual(values, second.values(grid))
            self.assertEqual(sorted(values), grid.cells())
            for cell in grid.cells():
                if second.ring(grid, cell) is None:
                    self.assertEqual(value_from(grid, cell, values), values[cell])
                else:
                    self.assertEqual(values[cell], fault("ring"))


if __name__ == "__main__":
    unittest.main()
