"""How trees and contents are kept, placed and moved, and the blocks of a name: m3 and m4."""

import copy
import itertools
import random
import unittest

import tables
from tablemates.edit import version_of
from tablemates.effects import in_force_without
from tablemates.keeping import (
    keep_content, keep_tree, moved_content, moved_tree, place_blocks, place_content, place_tree)
from tablemates.view import View

A, B, C, D = (0, 1), (0, 2), (0, 3), (0, 4)
NONE = (0, 0, 0, 0)
GONE = ("gone",)

EVERYTHING = ("op", "*", ("neg", ("op", "-", ("cell", 0, 1), ("num", (1, 2)))),
              ("call", "max", (("block", 0, 0, 1, 2), ("gone",), ("name", "total"), ("block", 1, 1, 1, 1))))
EVERYTHING_KEPT = ("op", "*", ("neg", ("op", "-", ("cell", A, B), ("num", (1, 2)))),
                   ("call", "max", (("block", A, A, B, C), ("gone",), ("name", "total"), ("block", B, B, B, B))))
PLAIN = (("blank",), ("text", "A1"), ("number", (-1, 2)), ("formula", ("num", (3, 1))), ("formula", GONE),
         ("formula", ("call", "sum", (("name", "ab"), GONE))))


def call(*areas):
    return ("call", "sum", areas)


class Keep(unittest.TestCase):
    def test_m3_trees_of_all_kinds(self):
        self.assertEqual(keep_tree(tables.Table(2, 3).view(), EVERYTHING), EVERYTHING_KEPT)

    def test_m3_the_ids_of_the_live_lines(self):
        table = tables.Table(3, 2)
        table.delete(1, "row", 0)
        table.insert(1, "row", 1)
        table.insert(1, "column", 0)
        view = table.view()
        self.assertEqual(keep_tree(view, ("cell", 0, 0)), ("cell", B, (1, 3)))
        self.assertEqual(keep_tree(view, ("cell", 1, 1)), ("cell", (1, 2), A))
        self.assertEqual(keep_tree(view, call(("block", 0, 0, 2, 2))), call(("block", B, (1, 3), C, B)))

    def test_m3_contents_of_all_kinds(self):
        view = tables.Table(2, 3).view()
        self.assertEqual(keep_content(view, ("formula", EVERYTHING)), ("formula", EVERYTHING_KEPT))
        for content in PLAIN:
            self.assertEqual(keep_content(view, content), content)

    def test_m3_names_and_what_is_gone_stay(self):
        view = tables.Table(0, 0).view()
        for tree in (GONE, ("num", (0, 1)), call(GONE, ("name", "ab"))):
            self.assertEqual(keep_tree(view, tree), tree)

    def test_m3_random_trees(self):
        for start in range(100):
            chance = random.Random(start)
            view = tables.random_table(chance, 25, (3, 3)).view()
            rows, columns = view.live("row"), view.live("column")
            if rows and columns:
                tree = tables.random_tree(chance, len(rows), len(columns), 3)
                self.assertEqual(keep_tree(view, tree), tables.kept(tree, rows, columns))


class PlaceTree(unittest.TestCase):
    def check(self, table, seen, tree, want):
        edits = table.edits()
        for listed in (edits, edits[::-1]):
            view = View(table.begin, listed, table.view().forced)
            self.assertEqual(place_tree(view, seen, tree), want)
            self.assertEqual(place_content(view, seen, ("formula", tree)), ("formula", want))

    def test_m3_trees_of_all_kinds(self):
        self.check(tables.Table(2, 3), NONE, EVERYTHING_KEPT, EVERYTHING)

    def test_m3_a_cell_whose_lines_moved(self):
        table = tables.Table(2, 2)
        table.insert(1, "row", 0)
        table.insert(1, "column", 1)
        self.check(table, NONE, ("cell", B, B), ("cell", 2, 2))
        self.check(table, NONE, ("cell", A, A), ("cell", 1, 0))

    def test_m3_a_cell_of_which_one_line_or_both_are_gone(self):
        table = tables.Table(3, 3)
        table.delete(1, "row", 1)
        self.check(table, NONE, ("cell", B, C), GONE)
        self.check(table, NONE, ("cell", C, C), ("cell", 1, 2))
        table.delete(1, "column", 2)
        self.check(table, NONE, ("cell", C, C), GONE)
        self.check(table, NONE, ("cell", B, C), GONE)
        self.check(table, NONE, ("neg", ("op", "+", ("cell", B, C), ("cell", C, B))),
                   ("neg", ("op", "+", GONE, ("cell", 1, 1))))

    def test_m3_a_cell_in_an_inserted_line(self):
        table = tables.Table(1, 1)
        table.insert(1, "row", 0)
        self.check(table, (1, 0, 0, 0), ("cell", (1, 1), A), ("cell", 0, 0))
        table.undo(1, 1)
        self.check(table, (1, 0, 0, 0), ("cell", (1, 1), A), GONE)
        self.check(table, (1, 0, 0, 0), ("cell", A, A), ("cell", 0, 0))

    def test_m3_a_block_of_which_lines_are_gone(self):
        table = tables.Table(3, 3)
        table.delete(1, "row", 0)
        self.check(table, NONE, call(("block", A, A, C, B)), call(("block", 0, 0, 1, 1)))
        table.delete(1, "row", 1)
        self.check(table, NONE, call(("block", A, A, C, B)), call(("block", 0, 0, 0, 1)))
        table.delete(1, "row", 0)
        self.check(table, NONE, call(("block", A, A, C, B)), call(GONE))

    def test_m3_a_block_of_one_line_that_is_gone(self):
        table = tables.Table(2, 2)
        table.delete(1, "column", 0)
        self.check(table, NONE, call(("block", A, A, B, A)), call(GONE))
        self.check(table, NONE, call(("block", A, A, B, B)), call(("block", 0, 0, 1, 0)))

    def test_m3_what_is_gone_stands_in_its_place(self):
        table = tables.Table(3, 2)
        table.delete(1, "row", 1)
        tree = call(("block", A, A, A, A), ("block", B, A, B, B), ("name", "ab"), ("block", C, A, C, A))
        self.check(table, NONE, tree, call(("block", 0, 0, 0, 0), GONE, ("name", "ab"), ("block", 1, 0, 1, 0)))

    def test_m3_lines_inserted_into_a_block(self):
        table = tables.Table(2, 2)
        table.insert(1, "row", 1)
        table.insert(1, "row", 0)
        table.insert(1, "column", 2)
        self.check(table, NONE, call(("block", A, A, B, B)), call(("block", 1, 0, 3, 1)))

    def test_m3_a_block_that_is_placed_as_several(self):
        table = tables.Table(4, 4)
        for axis in tables.AXES:
            table.delete(2, axis, 2)
            table.insert(2, axis, 2)
        table.undo(2, 3)
        table.undo(2, 1)
        # On both axes the lines A, B, C now stand at 0, 1 and 3.
        self.check(table, NONE, call(("block", A, A, C, C)),
                   call(("block", 0, 0, 1, 1), ("block", 0, 3, 1, 3), ("block", 3, 0, 3, 1), ("block", 3, 3, 3, 3)))
        self.check(table, NONE, call(("name", "ab"), ("block", B, B, C, B), GONE),
                   call(("name", "ab"), ("block", 1, 1, 1, 1), ("block", 3, 1, 3, 1), GONE))
        self.check(table, NONE, call(("block", C, B, D, C)), call(("block", 3, 1, 4, 1), ("block", 3, 3, 4, 3)))

    def test_m3_names_and_what_is_gone_stay(self):
        table = tables.Table(1, 1)
        table.delete(1, "row", 0)
        for tree in (GONE, ("num", (0, 1)), call(GONE, ("name", "ab"))):
            self.check(table, NONE, tree, tree)

    def test_m3_contents_without_a_tree_stay(self):
        table = tables.Table(1, 1)
        table.delete(1, "row", 0)
        for content in PLAIN:
            self.assertEqual(place_content(table.view(), NONE, content), content)


class PlaceBlocks(unittest.TestCase):
    def check(self, table, blocks, want, seen=NONE):
        self.assertEqual(place_blocks(table.view(), seen, blocks), want)

    def test_m3_blocks_of_a_name(self):
        self.check(tables.Table(3, 3), ((A, A, B, C), (C, B, C, B)), [("block", 0, 0, 1, 2), ("block", 2, 1, 2, 1)])

    def test_m3_one_block_twice(self):
        self.check(tables.Table(2, 2), ((A, A, B, B), (A, A, B, B)), [("block", 0, 0, 1, 1)] * 2)

    def test_m3_a_block_without_a_segment_is_left_out(self):
        table = tables.Table(3, 3)
        table.delete(1, "row", 1)
        self.check(table, ((A, A, A, C), (B, A, B, C), (C, C, C, C)), [("block", 0, 0, 0, 2), ("block", 1, 2, 1, 2)])

    def test_m3_no_block_is_left(self):
        table = tables.Table(2, 2)
        table.delete(1, "column", 0)
        self.check(table, ((A, A, B, A),), [GONE])
        self.check(table, ((A, A, B, A), (B, A, B, A)), [GONE])

    def test_m3_a_name_with_no_blocks(self):
        self.check(tables.Table(2, 2), (), [GONE])
        self.check(tables.Table(0, 0), (), [GONE])

    def test_m3_a_block_that_is_placed_as_several(self):
        table = tables.Table(4, 2)
        table.delete(2, "row", 2)
        table.insert(2, "row", 2)
        table.undo(2, 1)
        self.check(table, ((D, A, D, A), (A, A, C, B)),
                   [("block", 4, 0, 4, 0), ("block", 0, 0, 1, 1), ("block", 3, 0, 3, 1)])

    def test_m3_the_version_tells_what_the_blocks_take_in(self):
        table = tables.Table(2, 2)
        table.insert(1, "row", 1)
        table.insert(1, "row", 1)
        self.check(table, ((A, A, B, A),), [("block", 0, 0, 3, 0)])
        self.check(table, ((A, A, (1, 1), A),), [("block", 0, 0, 2, 0)], (1, 0, 0, 0))


class KeptAndPlaced(unittest.TestCase):
    def test_m3_the_same_again_in_the_same_view(self):
        for start in range(150):
            chance = random.Random(start)
            table = tables.random_table(chance, 30, (3, 3))
            edits = table.edits()
            view = View(table.begin, edits, in_force_without(edits, chance.choice(((), (), (1, 3)))))
            rows, columns = len(view.live("row")), len(view.live("column"))
            if rows and columns:
                for _ in range(5):
                    tree = tables.random_tree(chance, rows, columns, 3)
                    seen = version_of(edits)
                    self.assertEqual(place_tree(view, seen, keep_tree(view, tree)), tree)
                    content = tables.random_content(chance, rows, columns)
                    self.assertEqual(place_content(view, seen, keep_content(view, content)), content)

    def test_m3_copies_with_the_same_edits_place_the_same(self):
        for start in range(30):
            chance = random.Random(start)
            table = tables.random_table(chance, 40, (3, 3))
            views = [View(table.begin, tables.mixed(chance, table.edits()), table.view().forced) for _ in range(3)]
            for edit in table.edits():
                if edit[2][0] == "write":
                    for _, _, content in edit[2][1]:
                        found = [place_content(view, edit[1], content) for view in views]
                        self.assertEqual(found, [found[0]] * 3)

    def test_m3_placed_trees_keep_to_the_grid(self):
        for start in range(40):
            table = tables.random_table(random.Random(start), 40, (3, 3))
            view = table.view()
            lengths = (len(view.live("row")), len(view.live("column")))
            for edit in table.edits():
                if edit[2][0] == "name":
                    for area in place_blocks(view, edit[1], edit[2][2]):
                        if area != GONE:
                            self.assertTrue(0 <= area[1] <= area[3] < lengths[0], area)
                            self.assertTrue(0 <= area[2] <= area[4] < lengths[1], area)


class Move(unittest.TestCase):
    def check(self, tree, by, size, want):
        self.assertEqual(moved_tree(tree, *by, *size), want)
        self.assertEqual(moved_content(("formula", tree), *by, *size), ("formula", want))

    def test_m4_trees_of_all_kinds(self):
        want = ("op", "*", ("neg", ("op", "-", ("cell", 2, 2), ("num", (1, 2)))),
                ("call", "max", (("block", 2, 1, 3, 3), ("gone",), ("name", "total"), ("block", 3, 2, 3, 2))))
        self.check(EVERYTHING, (2, 1), (4, 4), want)

    def test_m4_by_nothing(self):
        self.check(EVERYTHING, (0, 0), (2, 3), EVERYTHING)

    def test_m4_by_less_than_nothing(self):
        self.check(("cell", 3, 2), (-1, -2), (4, 4), ("cell", 2, 0))
        self.check(call(("block", 1, 1, 3, 2)), (-1, -1), (4, 4), call(("block", 0, 0, 2, 1)))

    def test_m4_a_cell_just_inside_and_just_outside(self):
        cell = ("cell", 1, 1)
        for by, want in (((-1, 0), ("cell", 0, 1)), ((-2, 0), GONE), ((0, -1), ("cell", 1, 0)), ((0, -2), GONE),
                         ((2, 0), ("cell", 3, 1)), ((3, 0), GONE), ((0, 1), ("cell", 1, 2)), ((0, 2), GONE),
                         ((2, 1), ("cell", 3, 2)), ((3, 2), GONE), ((-2, 1), GONE), ((2, -2), GONE)):
            self.check(cell, by, (4, 3), want)

    def test_m4_a_block_just_inside_and_just_outside(self):
        block = ("block", 1, 1, 2, 3)
        for by, want in (((-1, 0), ("block", 0, 1, 1, 3)), ((-2, 0), GONE), ((0, -1), ("block", 1, 0, 2, 2)),
                         ((0, -2), GONE), ((1, 0), ("block", 2, 1, 3, 3)), ((2, 0), GONE),
                         ((0, 1), ("block", 1, 2, 2, 4)), ((0, 2), GONE), ((9, 9), GONE)):
            self.check(call(("name", "ab"), block, GONE), by, (4, 5), call(("name", "ab"), want, GONE))

    def test_m4_what_does_not_stand_in_cells_stays(self):
        for tree in (GONE, ("num", (0, 1)), call(GONE, ("name", "ab"))):
            for by in ((0, 0), (5, 5), (-5, -5)):
                self.check(tree, by, (1, 1), tree)

    def test_m4_contents_without_a_tree_stay(self):
        for content in PLAIN:
            self.assertEqual(moved_content(content, 9, -9, 2, 2), content)

    def test_m4_there_and_back(self):
        for start in range(100):
            chance = random.Random(start)
            tree = tables.random_tree(chance, 3, 3, 3)
            down, right = chance.randint(0, 4), chance.randint(0, 4)
            there = moved_tree(tree, down, right, 7, 7)
            self.assertEqual(moved_tree(there, -down, -right, 7, 7), tree)

    def test_m4_every_cell_of_a_grid(self):
        for row, column, down, right in itertools.product(range(3), range(2), range(-3, 4), range(-3, 4)):
            inside = row + down in range(3) and column + right in range(2)
            want = ("cell", row + down, column + right) if inside else GONE
            self.check(("cell", row, column), (down, right), (3, 2), want)


class Unchanged(unittest.TestCase):
    def test_basics_arguments_stay_as_they_are(self):
        table = tables.random_table(random.Random(3), 30, (3, 3))
        view = table.view()
        before = copy.deepcopy(vars(view))
        blocks = [(A, A, B, B)]
        keep_tree(view, EVERYTHING[2][1])
        place_tree(view, NONE, EVERYTHING_KEPT)
        place_blocks(view, NONE, blocks).clear()
        self.assertEqual(vars(view), before)
        self.assertEqual(blocks, [(A, A, B, B)])
        self.assertNotEqual(place_blocks(view, NONE, blocks), [])


if __name__ == "__main__":
    unittest.main()
