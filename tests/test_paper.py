"""Papers: p1, p2."""

import random
import unittest

import papers
import second
from second import grid
from tablemates.grids import Grid
from tablemates.paper import paper_of, value_text


class Values(unittest.TestCase):
    def test_p1_value_text(self):
        for value, want in (
                (("text", "a"), "'a"), (("text", "'"), "''"), (("text", " 12"), "' 12"), (("text", "!ring"), "'!ring"),
                (("number", (0, 1)), "0"), (("number", (-15, 2)), "-15/2"), (("number", (3, 1)), "3"),
                (("number", (1, 3)), "1/3"), (("number", (10 ** 18, 1)), "1" + "0" * 18)):
            self.assertEqual(value_text(value), want)
        for word in ("clash", "ring", "gone", "unknown", "kind", "zero", "range", "none"):
            self.assertEqual(value_text(("fault", word)), "!" + word)


class Papers(unittest.TestCase):
    def check(self, some_grid, want):
        self.assertEqual(paper_of(some_grid), want)

    def test_p2_a_blank_grid(self):
        for rows, columns in ((0, 0), (12, 8), (0, 3)):
            self.check(Grid(rows, columns), (rows, columns, [], [], []))

    def test_p1_entries(self):
        self.check(grid(2, 2, {"A1": "2", "B1": "=A1 / 4", "A2": "x", "B2": ["1", "", "=A1"]}), (2, 2, [], [], [
            (0, 0, ("2",), "2"), (0, 1, ("=A1 / 4",), "1/2"), (1, 0, ("x",), "'x"),
            (1, 1, ("1", "", "=A1"), "!clash")]))

    def test_p1_names(self):
        areas = [("block", 0, 0, 1, 1), ("gone",)]
        self.check(grid(2, 2, {}, {"total": areas, "ab": None, "zz": [("gone",)]}), (
            2, 2, [("ab", None), ("total", tuple(areas)), ("zz", (("gone",),))], [], []))

    def test_p2_entries_come_behind_what_they_read(self):
        self.check(grid(3, 2, {"A1": "=B2", "B1": "=A3", "A2": "1", "B2": "=A2 + B1", "A3": "=B3"}), (3, 2, [], [], [
            (1, 0, ("1",), "1"), (2, 0, ("=B3",), "0"), (0, 1, ("=A3",), "0"), (1, 1, ("=A2 + B1",), "1"),
            (0, 0, ("=B2",), "1")]))

    def test_p2_the_first_one_that_is_ready(self):
        # Behind B1 the cell A1 is ready, and goes ahead of C1.
        self.check(grid(1, 3, {"A1": "=B1", "B1": "1", "C1": "2"}), (1, 3, [], [], [
            (0, 1, ("1",), "1"), (0, 0, ("=B1",), "1"), (0, 2, ("2",), "2")]))

    def test_p2_rings(self):
        found = grid(2, 3, {"A1": "=B1", "B1": "=A1", "C1": "=C1", "A2": "=A1 + 1", "B2": "=C1"})
        self.check(found, (2, 3, [], [[(0, 0), (0, 1)], [(0, 2)]], [
            (0, 0, ("=B1",), "!ring"), (0, 1, ("=A1",), "!ring"), (0, 2, ("=C1",), "!ring"),
            (1, 0, ("=A1 + 1",), "!ring"), (1, 1, ("=C1",), "!ring")]))

    def test_p2_one_knot_of_two_rings(self):
        found = grid(1, 4, {"A1": "=B1 + D1", "B1": "=A1", "C1": "=A1", "D1": "=C1"})
        self.check(found, (1, 4, [], [[(0, 0), (0, 1)], [(0, 2), (0, 0), (0, 3)]], [
            (0, 0, ("=B1 + D1",), "!ring"), (0, 1, ("=A1",), "!ring"), (0, 2, ("=A1",), "!ring"),
            (0, 3, ("=C1",), "!ring")]))

    def test_p2_knots_go_by_their_first_cells(self):
        # The knot of A1 and C1 is not ready before that of B1 and D1, which comes ahead of E1.
        found = grid(1, 5, {"A1": "=C1 + B1", "B1": "=D1", "C1": "=A1", "D1": "=B1", "E1": "1"})
        self.check(found, (1, 5, [], [[(0, 0), (0, 2)], [(0, 1), (0, 3)]], [
            (0, 1, ("=D1",), "!ring"), (0, 3, ("=B1",), "!ring"), (0, 0, ("=C1 + B1",), "!ring"),
            (0, 2, ("=A1",), "!ring"), (0, 4, ("1",), "1")]))

    def test_p2_a_knot_by_blocks_and_names(self):
        found = grid(2, 2, {"A1": "=sum(ab)", "B2": "=sum(A1:B1)", "B1": "3"}, {"ab": [("block", 1, 0, 1, 1)]})
        self.check(found, (2, 2, [("ab", (("block", 1, 0, 1, 1),))], [[(0, 0), (1, 1)]], [
            (0, 1, ("3",), "3"), (0, 0, ("=sum(ab)",), "!ring"), (1, 1, ("=sum(A1:B1)",), "!ring")]))

    def test_p2_by_words(self):
        rings = knots = clashes = 0
        for seed in range(500):
            some_grid = papers.random_grid(random.Random(seed))
            paper = paper_of(some_grid)
            self.assertEqual(paper, papers.paper_by_words(some_grid), seed)
            rings += len(paper[3]) > 0
            knots += len(paper[3]) > 1
            clashes += "!clash" in [entry[3] for entry in paper[4]]
        self.assertGreater(min(rings, knots, clashes), 20)

    def test_p2_a_large_grid(self):
        some_grid = Grid(99, 99)
        for row in range(99):
            some_grid.put((row, 5), [("formula", ("call", "sum", (("block", max(row - 1, 0), 5, row, 5),)))])
        paper = paper_of(some_grid)
        self.assertEqual([entry[0] for entry in paper[4]], list(range(99)))
        self.assertEqual(paper[3], [[(row, 5)] for row in range(99)])

    def test_p2_changes_nothing(self):
        some_grid = grid(2, 2, {"A1": "=B1", "B1": "=A1"}, {"ab": [("gone",)]})
        paper = paper_of(some_grid)
        for part in paper[2:]:
            part.clear()
        self.assertEqual(paper_of(some_grid), papers.paper_by_words(some_grid))
        self.assertEqual(second.values(some_grid)[(0, 0)], ("fault", "ring"))


if __name__ == "__main__":
    unittest.main()
