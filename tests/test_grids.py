"""Grids: v1."""

import copy
import random
import unittest

import second
from tablemates.errors import UnknownName
from tablemates.grids import Grid, same

BLANK = ("blank",)
ONE = ("number", (1, 1))
TEXT = ("text", "a")
FORMULA = ("formula", ("cell", 0, 1))
GONE = ("gone",)
BLOCK = ("block", 0, 0, 1, 1)


class Contents(unittest.TestCase):
    def test_v1_fields(self):
        grid = Grid(2, 3)
        self.assertEqual((grid.rows, grid.columns), (2, 3))
        self.assertEqual((Grid(0, 0).rows, Grid(12, 8).columns), (0, 8))

    def test_v1_all_cells_of_a_new_grid_are_blank(self):
        grid = Grid(2, 2)
        self.assertEqual(grid.cells(), [])
        self.assertEqual(grid.words(), [])
        self.assertEqual(grid.shown((0, 0)), [])
        self.assertEqual(grid.shown((1, 1)), [])

    def test_v1_no_rows_or_no_columns(self):
        for size in ((0, 0), (0, 6), (12, 0)):
            grid = Grid(*size)
            self.assertEqual(grid.cells(), [])
            grid.name("ab", [GONE])
            self.assertEqual(grid.words(), ["ab"])
            self.assertEqual(grid.areas("ab"), [GONE])
            self.assertTrue(same(grid, grid.copy()))

    def test_v1_one_content(self):
        for content in (ONE, TEXT, FORMULA):
            grid = Grid(2, 2)
            grid.put((1, 0), [content])
            self.assertEqual(grid.shown((1, 0)), [content])
            self.assertEqual(grid.shown((0, 1)), [])
            self.assertEqual(grid.cells(), [(1, 0)])

    def test_v1_a_cell_with_nothing_or_one_blank_is_blank(self):
        for blank in ([], [BLANK]):
            grid = Grid(2, 2)
            grid.put((0, 0), blank)
            self.assertEqual(grid.shown((0, 0)), [])
            self.assertEqual(grid.cells(), [])
            grid.put((0, 0), [ONE])
            grid.put((0, 0), blank)
            self.assertEqual(grid.shown((0, 0)), [])
            self.assertEqual(grid.cells(), [])

    def test_v1_several_contents(self):
        grid = Grid(2, 2)
        for shown in ([ONE, TEXT], [TEXT, ONE], [ONE, ONE], [BLANK, ONE], [ONE, BLANK], [BLANK, BLANK],
                      [ONE, BLANK, FORMULA, BLANK]):
            grid.put((0, 0), shown)
            self.assertEqual(grid.shown((0, 0)), shown)
            self.assertEqual(grid.cells(), [(0, 0)])

    def test_v1_put_again(self):
        grid = Grid(2, 2)
        grid.put((0, 0), [ONE, TEXT])
        grid.put((0, 0), [FORMULA])
        self.assertEqual(grid.shown((0, 0)), [FORMULA])

    def test_v1_cells_row_by_row(self):
        grid = Grid(12, 8)
        for cell in ((11, 7), (2, 0), (0, 7), (10, 3), (0, 0), (2, 5), (9, 1)):
            grid.put(cell, [ONE])
        self.assertEqual(grid.cells(), [(0, 0), (0, 7), (2, 0), (2, 5), (9, 1), (10, 3), (11, 7)])


class Names(unittest.TestCase):
    def test_v1_a_list_and_none(self):
        grid = Grid(2, 2)
        grid.name("ab", [BLOCK, GONE])
        grid.name("total", None)
        self.assertEqual(grid.areas("ab"), [BLOCK, GONE])
        self.assertIsNone(grid.areas("total"))
        self.assertEqual(grid.words(), ["ab", "total"])

    def test_v1_told_again(self):
        grid = Grid(2, 2)
        grid.name("ab", [BLOCK])
        grid.name("ab", None)
        self.assertIsNone(grid.areas("ab"))
        grid.name("ab", [GONE])
        self.assertEqual(grid.areas("ab"), [GONE])
        self.assertEqual(grid.words(), ["ab"])

    def test_v1_words_are_sorted(self):
        grid = Grid(2, 2)
        for word in ("zz", "ab", "total", "abc", "aa"):
            grid.name(word, [BLOCK])
        self.assertEqual(grid.words(), ["aa", "ab", "abc", "total", "zz"])

    def test_v1_taken_away(self):
        grid = Grid(2, 2)
        grid.name("ab", [BLOCK])
        grid.name("total", None)
        grid.unname("ab")
        self.assertEqual(grid.words(), ["total"])
        grid.unname("ab")
        self.assertEqual(grid.words(), ["total"])
        grid.unname("total")
        self.assertEqual(grid.words(), [])
        grid.unname("never")
        self.assertEqual(grid.words(), [])

    def check_unknown(self, grid, word):
        with self.assertRaises(UnknownName) as caught:
            grid.areas(word)
        self.assertEqual(caught.exception.word, word)

    def test_v1_a_word_that_is_no_name(self):
        grid = Grid(2, 2)
        self.check_unknown(grid, "ab")
        grid.name("ab", None)
        self.check_unknown(grid, "abc")
        grid.unname("ab")
        self.check_unknown(grid, "ab")


class Apart(unittest.TestCase):
    def test_basics_lists_that_were_handed_in(self):
        grid = Grid(2, 2)
        shown = [ONE, TEXT]
        areas = [BLOCK]
        grid.put((0, 0), shown)
        grid.name("ab", areas)
        shown.clear()
        areas.append(GONE)
        self.assertEqual(grid.shown((0, 0)), [ONE, TEXT])
        self.assertEqual(grid.areas("ab"), [BLOCK])

    def test_basics_lists_that_were_handed_out(self):
        grid = Grid(2, 2)
        grid.put((0, 0), [ONE])
        grid.name("ab", [BLOCK])
        grid.shown((0, 0)).append(TEXT)
        grid.shown((0, 1)).append(TEXT)
        grid.areas("ab").clear()
        grid.cells().clear()
        grid.words().clear()
        self.assertEqual(grid.shown((0, 0)), [ONE])
        self.assertEqual(grid.shown((0, 1)), [])
        self.assertEqual(grid.areas("ab"), [BLOCK])
        self.assertEqual(grid.cells(), [(0, 0)])
        self.assertEqual(grid.words(), ["ab"])

    def test_v1_a_copy_has_the_same(self):
        grid = Grid(3, 2)
        grid.put((2, 1), [BLANK, ONE])
        grid.put((0, 0), [FORMULA])
        grid.name("ab", [BLOCK, GONE])
        grid.name("total", None)
        other = grid.copy()
        self.assertIsNot(other, grid)
        self.assertEqual((other.rows, other.columns), (3, 2))
        self.assertEqual(other.cells(), [(0, 0), (2, 1)])
        self.assertEqual(other.shown((2, 1)), [BLANK, ONE])
        self.assertEqual(other.words(), ["ab", "total"])
        self.assertEqual(other.areas("ab"), [BLOCK, GONE])
        self.assertIsNone(other.areas("total"))

    def test_v1_a_copy_that_is_changed(self):
        grid = Grid(2, 2)
        grid.put((0, 0), [ONE])
        grid.name("ab", [BLOCK])
        other = grid.copy()
        other.put((0, 0), [TEXT])
        other.put((1, 1), [TEXT])
        other.name("ab", None)
        other.name("total", [GONE])
        self.assertEqual((grid.cells(), grid.shown((0, 0))), ([(0, 0)], [ONE]))
        self.assertEqual((grid.words(), grid.areas("ab")), (["ab"], [BLOCK]))
        other = grid.copy()
        grid.put((0, 0), [])
        grid.unname("ab")
        self.assertEqual((other.cells(), other.words()), ([(0, 0)], ["ab"]))


class Same(unittest.TestCase):
    def sample(self, rows=2, columns=2):
        grid = Grid(rows, columns)
        grid.put((0, 0), [ONE, TEXT])
        grid.put((1, 0), [FORMULA])
        grid.name("ab", [BLOCK, GONE])
        grid.name("total", None)
        return grid

    def check(self, grid, want):
        self.assertIs(same(grid, self.sample()), want)
        self.assertIs(same(self.sample(), grid), want)

    def test_v1_same(self):
        self.check(self.sample(), True)
        self.check(self.sample().copy(), True)
        self.assertIs(same(Grid(0, 0), Grid(0, 0)), True)

    def test_v1_another_size(self):
        self.check(self.sample(3, 2), False)
        self.check(self.sample(2, 3), False)
        self.assertIs(same(Grid(0, 1), Grid(1, 0)), False)

    def test_v1_other_contents(self):
        for cell, shown in (((0, 0), [TEXT, ONE]), ((0, 0), [ONE]), ((0, 0), []), ((0, 0), [ONE, ONE]),
                            ((1, 0), [TEXT]), ((1, 0), [BLANK]), ((1, 1), [ONE]), ((1, 1), [BLANK, BLANK]),
                            ((1, 0), [("formula", ("cell", 1, 1))]), ((0, 0), [ONE, TEXT, BLANK])):
            grid = self.sample()
            grid.put(cell, shown)
            self.check(grid, False)

    def test_v1_blank_cells_are_the_same_however_they_became_blank(self):
        grid = self.sample()
        grid.put((1, 1), [ONE])
        grid.put((1, 1), [BLANK])
        grid.put((0, 1), [])
        self.check(grid, True)

    def test_v1_other_names(self):
        for word, areas in (("ab", [GONE, BLOCK]), ("ab", [BLOCK]), ("ab", None), ("total", [GONE]), ("abc", None),
                            ("ab", [("block", 0, 0, 1, 0), GONE]), ("zz", [BLOCK])):
            grid = self.sample()
            grid.name(word, areas)
            self.check(grid, False)
        for word in ("ab", "total"):
            grid = self.sample()
            grid.unname(word)
            self.check(grid, False)

    def test_v1_names_in_another_order(self):
        grid = Grid(2, 2)
        grid.name("total", None)
        grid.name("ab", [BLOCK, GONE])
        grid.put((1, 0), [FORMULA])
        grid.put((0, 0), [ONE, TEXT])
        self.check(grid, True)

    def test_v1_random_grids(self):
        for start in range(60):
            grid = second.random_grid(random.Random(start), 3, 3, 8)
            other = second.random_grid(random.Random(start), 3, 3, 8)
            self.assertIs(same(grid, other), True)
            before = copy.deepcopy(vars(grid))
            same(grid, other)
            self.assertEqual(vars(grid), before)
            other.put((2, 2), other.shown((2, 2)) + [ONE])
            self.assertIs(same(grid, other), False)


if __name__ == "__main__":
    unittest.main()
