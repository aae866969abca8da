"""What a cell reads: v3."""

import random
import unittest

import second
from tablemates.reading import blocks_of, cells_read
from tablemates.grids import Grid

GONE = ("gone",)
A1 = (0, 0)


def names():
    return {"ab": [("block", 1, 0, 1, 1), GONE, ("block", 0, 0, 0, 0), ("block", 1, 0, 1, 1)],
            "clash": None, "empty": [GONE], "nothing": []}


class Blocks(unittest.TestCase):
    def check(self, area, want):
        grid = second.grid(3, 3, {}, names())
        self.assertEqual(blocks_of(grid, area), want)

    def test_v3_of_a_block_itself(self):
        self.check(("block", 0, 1, 2, 2), [(0, 1, 2, 2)])
        self.check(("block", 1, 1, 1, 1), [(1, 1, 1, 1)])

    def test_v3_of_a_name_in_the_order_of_its_list(self):
        self.check(("name", "ab"), [(1, 0, 1, 1), (0, 0, 0, 0), (1, 0, 1, 1)])

    def test_v3_otherwise_none(self):
        self.check(GONE, [])
        self.check(("name", "clash"), [])
        self.check(("name", "empty"), [])
        self.check(("name", "nothing"), [])
        self.check(("name", "never"), [])

    def test_v3_a_name_that_was_taken_away(self):
        grid = second.grid(3, 3, {}, names())
        grid.unname("ab")
        self.assertEqual(blocks_of(grid, ("name", "ab")), [])

    def test_basics_results_are_new(self):
        grid = second.grid(3, 3, {}, names())
        blocks_of(grid, ("name", "ab")).clear()
        self.assertEqual(len(blocks_of(grid, ("name", "ab"))), 3)
        self.assertEqual(grid.areas("ab"), names()["ab"])


class Reads(unittest.TestCase):
    def check(self, texts, want, cell="C3"):
        grid = second.grid(3, 3, {cell: texts}, names())
        self.assertEqual(cells_read(grid, second.at(cell)), [second.at(address) for address in want.split()])

    def test_v3_the_cells_that_it_names(self):
        self.check("=A1", "A1")
        self.check("=B2 + A1 * -C1 - (A1 / B1)", "A1 B1 C1 B2")

    def test_v3_the_cells_in_blocks(self):
        self.check("=sum(A1:B2)", "A1 B1 A2 B2")
        self.check("=max(B2, B1:B3) + 1", "B1 B2 B3")

    def test_v3_cells_and_blocks_sorted_and_each_once(self):
        self.check("=sum(B1:B3, A2:C2) + B2 + A1 + B2", "A1 B1 A2 B2 C2 B3")

    def test_v3_names(self):
        self.check("=sum(ab)", "A1 A2 B2")
        self.check("=sum(clash) + sum(never) + count(empty, nothing)", "")
        self.check("=sum(never, C1, clash)", "C1")

    def test_v3_itself(self):
        self.check("=C3", "C3")
        self.check("=sum(C1:C3)", "C1 C2 C3")

    def test_v3_what_is_gone(self):
        self.check("=gone + sum(gone, A1)", "A1")

    def test_v3_numbers_alone(self):
        self.check("=1 + 2", "")

    def test_v3_other_contents_read_nothing(self):
        self.check("A1", "")
        self.check("12", "")
        self.check("", "")

    def test_v3_a_clash_reads_nothing(self):
        self.check(["=A1", "=B1"], "")
        self.check(["=A1", ""], "")
        self.check(["", "=A1"], "")
        self.check(["=A1", "=A1"], "")

    def test_v3_a_blank_cell_reads_nothing(self):
        self.assertEqual(cells_read(Grid(2, 2), A1), [])

    def test_v3_a_name_that_is_told_later(self):
        grid = second.grid(3, 3, {"A1": "=sum(total)"})
        self.assertEqual(cells_read(grid, A1), [])
        grid.name("total", [("block", 1, 1, 2, 1)])
        self.assertEqual(cells_read(grid, A1), [(1, 1), (2, 1)])
        grid.name("total", None)
        self.assertEqual(cells_read(grid, A1), [])

    def test_v3_random_grids(self):
        for start in range(100):
            grid = second.random_grid(random.Random(start), 4, 4, 12)
            for cell in second.cells_in((0, 0, 3, 3)):
                self.assertEqual(cells_read(grid, cell), second.reads(grid, cell))


if __name__ == "__main__":
    unittest.main()
