"""Trees: t1."""

import itertools
import unittest

from tablemates.trees import areas_of, is_name_word, mapped, named_cells, size

ONE = ("num", (1, 1))
BLOCK = ("block", 0, 0, 1, 1)
GONE = ("gone",)
NAME = ("name", "total")
CALL = ("call", "sum", (BLOCK, GONE, NAME))
KEPT_CELL = ("cell", (0, 1), (2, 3))
KEPT_BLOCK = ("block", (0, 1), (0, 1), (1, 4), (2, 3))


class Size(unittest.TestCase):
    def test_t1_single_trees(self):
        for tree in (ONE, ("cell", 0, 0), GONE, KEPT_CELL):
            self.assertEqual(size(tree), 1)

    def test_t1_operators(self):
        self.assertEqual(size(("neg", ONE)), 2)
        self.assertEqual(size(("op", "+", ONE, ONE)), 3)
        self.assertEqual(size(("op", "*", ("neg", ("cell", 0, 0)), ("op", "-", ONE, GONE))), 6)

    def test_t1_areas_count(self):
        self.assertEqual(size(("call", "max", (NAME,))), 2)
        self.assertEqual(size(CALL), 4)
        self.assertEqual(size(("neg", CALL)), 5)
        self.assertEqual(size(("op", "+", CALL, CALL)), 9)
        self.assertEqual(size(("call", "sum", (KEPT_BLOCK, KEPT_BLOCK))), 3)

    def test_t1_deep_trees(self):
        tree = ONE
        for _ in range(120):
            tree = ("op", "-", ("neg", tree), ONE)
        self.assertEqual(size(tree), 361)


class Parts(unittest.TestCase):
    TREE = ("op", "+", ("op", "*", ("cell", 2, 0), CALL), ("neg", ("op", "/", ("cell", 0, 1), ("cell", 2, 0))))

    def test_t1_named_cells_as_they_stand(self):
        self.assertEqual(named_cells(self.TREE), [(2, 0), (0, 1), (2, 0)])
        self.assertEqual(named_cells(KEPT_CELL), [((0, 1), (2, 3))])
        self.assertEqual(named_cells(("neg", KEPT_CELL)), [((0, 1), (2, 3))])

    def test_t1_no_named_cells(self):
        for tree in (ONE, GONE, CALL, ("neg", ONE), ("op", "+", ONE, GONE)):
            self.assertEqual(named_cells(tree), [])

    def test_t1_areas_as_they_stand(self):
        other = ("call", "min", (NAME, BLOCK))
        self.assertEqual(areas_of(CALL), [BLOCK, GONE, NAME])
        self.assertEqual(areas_of(("op", "-", other, ("neg", CALL))), [NAME, BLOCK, BLOCK, GONE, NAME])
        self.assertEqual(areas_of(self.TREE), [BLOCK, GONE, NAME])

    def test_t1_no_areas(self):
        for tree in (ONE, GONE, ("cell", 0, 0), ("neg", GONE), ("op", "+", ONE, ("cell", 0, 0))):
            self.assertEqual(areas_of(tree), [])


class Mapped(unittest.TestCase):
    def test_t1_cells(self):
        tree = ("op", "+", ("neg", ("cell", 0, 1)), ("op", "*", ONE, ("cell", 2, 3)))
        found = mapped(tree, lambda cell: ("cell", cell[1] + 1, cell[2] + 2), lambda area: (area,))
        self.assertEqual(found, ("op", "+", ("neg", ("cell", 1, 3)), ("op", "*", ONE, ("cell", 3, 5))))

    def test_t1_cells_become_other_trees(self):
        tree = ("op", "+", ("cell", 0, 0), ("cell", 1, 1))
        found = mapped(tree, lambda cell: GONE if cell == ("cell", 0, 0) else ("neg", cell), lambda area: (area,))
        self.assertEqual(found, ("op", "+", GONE, ("neg", ("cell", 1, 1))))

    def test_t1_areas_one_behind_the_other(self):
        found = mapped(("neg", CALL), lambda cell: cell,
                       lambda area: (area, NAME) if area == BLOCK else (area,))
        self.assertEqual(found, ("neg", ("call", "sum", (BLOCK, NAME, GONE, NAME))))

    def test_t1_areas_that_are_taken_away(self):
        found = mapped(CALL, lambda cell: cell, lambda area: () if area == GONE else (area,))
        self.assertEqual(found, ("call", "sum", (BLOCK, NAME)))

    def test_t1_call_without_areas(self):
        self.assertEqual(mapped(CALL, lambda cell: cell, lambda area: ()), ("call", "sum", (GONE,)))

    def test_t1_nothing_else_is_replaced(self):
        def fail(part):
            raise AssertionError(part)
        for tree in (ONE, GONE, ("neg", GONE), ("op", "/", ONE, GONE)):
            self.assertEqual(mapped(tree, fail, fail), tree)
        self.assertEqual(mapped(("op", "+", CALL, ONE), fail, lambda area: (area,)), ("op", "+", CALL, ONE))


class NameWords(unittest.TestCase):
    def test_t1_name_words(self):
        for text in ("ab", "total", "abcdefgh", "zz", "sums", "su", "gon", "goner", "maxi", "counts"):
            self.assertIs(is_name_word(text), True, text)

    def test_t1_no_name_words(self):
        for text in ("", "a", "abcdefghi", "sum", "count", "min", "max", "gone", "Total", "totaL", "to tal",
                     "ab1", "a_b", " ab", "ab ", "\u00e4\u00e4", "ab\n", "A1", "-a"):
            self.assertIs(is_name_word(text), False, text)

    def test_t1_all_short_strings(self):
        for length in range(4):
            for characters in itertools.product("azAZ0 `{", repeat=length):
                text = "".join(characters)
                want = length >= 2 and all(character in "az" for character in text)
                self.assertIs(is_name_word(text), want, text)


if __name__ == "__main__":
    unittest.main()
