"""What a view shows: s1."""

import random
import unittest

import deeds
import second
import tables
from tables import Table
from tablemates.effects import in_force, in_force_without
from tablemates.grids import Grid, same
from tablemates.states import grid_of
from tablemates.view import View

BLANK = ("blank",)
GONE = ("gone",)
ONE = ("number", (1, 1))
TWO = ("number", (2, 1))


def shown(table):
    return grid_of(table.view())


class Cells(unittest.TestCase):
    def test_s1_no_edits(self):
        for rows, columns in ((0, 0), (8, 6), (0, 3), (2, 0)):
            self.assertTrue(same(grid_of(View((rows, columns), [], [])), Grid(rows, columns)))

    def test_s1_one_write(self):
        table = Table(2, 2)
        table.write(1, (0, 1), ONE)
        self.assertEqual(shown(table).cells(), [(0, 1)])
        self.assertEqual(shown(table).shown((0, 1)), [ONE])

    def test_s1_a_write_that_was_seen_is_covered(self):
        table = Table(2, 2)
        table.write(1, (0, 1), ONE)
        table.meet_all()
        table.write(2, (0, 1), TWO)
        self.assertEqual(shown(table).shown((0, 1)), [TWO])

    def test_s1_several_contents_in_their_order(self):
        table = Table(1, 1)
        table.write(3, (0, 0), ONE)
        table.write(1, (0, 0), TWO)
        table.write(2, (0, 0), ONE)
        table.write(2, (0, 0), ("text", "a"))
        self.assertEqual(shown(table).shown((0, 0)), [TWO, ONE, ("text", "a")])

    def test_s1_only_a_blank_one_is_none(self):
        table = Table(1, 1)
        table.write(1, (0, 0), ONE)
        table.write(1, (0, 0), BLANK)
        self.assertEqual(shown(table).shown((0, 0)), [])
        self.assertEqual(shown(table).cells(), [])

    def test_s1_a_blank_one_among_several(self):
        table = Table(1, 1)
        table.write(1, (0, 0), BLANK)
        table.write(2, (0, 0), ONE)
        table.write(3, (0, 0), BLANK)
        self.assertEqual(shown(table).shown((0, 0)), [BLANK, ONE, BLANK])

    def test_s1_writes_into_lines_that_are_not_live(self):
        table = Table(2, 2)
        table.write(1, (0, 0), [ONE, TWO], [TWO, ONE])
        table.delete(2, "row", 0)
        table.delete(3, "column", 1)
        self.assertEqual(deeds.content_of(shown(table)), (1, 1, {(0, 0): [TWO]}, {}))

    def test_s1_contents_are_placed(self):
        table = Table(2, 2)
        block = ("call", "sum", (("block", 0, 0, 1, 0),))
        table.write(1, (0, 1), ("formula", ("op", "+", ("cell", 1, 1), block)))
        table.insert(2, "row", 1)
        table.delete(3, "column", 1)
        table.meet_all()
        table.write(4, (0, 0), ("formula", ("cell", 2, 0)))
        self.assertEqual(shown(table).shown((0, 0)), [("formula", ("cell", 2, 0))])
        table.undo(3, 1)
        moved = ("call", "sum", (("block", 0, 0, 2, 0),))
        self.assertEqual(shown(table).shown((0, 1)), [("formula", ("op", "+", ("cell", 2, 1), moved))])

    def test_s1_both_formulas_of_a_clash_are_placed(self):
        table = Table(2, 1)
        table.write(1, (0, 0), ("formula", ("cell", 1, 0)))
        table.insert(2, "row", 0)
        table.write(2, (1, 0), ("formula", ("cell", 0, 0)))
        self.assertEqual(shown(table).shown((1, 0)), [("formula", ("cell", 2, 0)), ("formula", ("cell", 0, 0))])

    def test_s1_by_the_ids_that_count_as_in_force(self):
        table = Table(1, 1)
        table.write(1, (0, 0), ONE)
        table.meet_all()
        table.write(2, (0, 0), TWO)
        edits = table.edits()
        for forced, want in (([], []), ([(1, 1)], [ONE]), ([(2, 1)], [TWO]), ([(1, 1), (2, 1)], [TWO])):
            self.assertEqual(grid_of(View((1, 1), edits, forced)).shown((0, 0)), want)


class Names(unittest.TestCase):
    def test_s1_one_telling(self):
        table = Table(2, 2)
        table.name(1, "total", (0, 0, 1, 1), (0, 0, 0, 0))
        self.assertEqual(shown(table).words(), ["total"])
        self.assertEqual(shown(table).areas("total"), [("block", 0, 0, 1, 1), ("block", 0, 0, 0, 0)])

    def test_s1_a_telling_without_blocks_is_no_name(self):
        table = Table(2, 2)
        table.name(1, "total")
        self.assertEqual(shown(table).words(), [])
        table.name(1, "total", (0, 0, 1, 1))
        table.name(1, "total")
        self.assertEqual(shown(table).words(), [])

    def test_s1_several_tellings_are_a_clash(self):
        table = Table(2, 2)
        table.name(1, "total", (0, 0, 1, 1))
        table.name(2, "total", (0, 0, 1, 1))
        self.assertEqual(shown(table).words(), ["total"])
        self.assertIsNone(shown(table).areas("total"))

    def test_s1_several_that_take_it_away_are_a_clash(self):
        table = Table(2, 2)
        table.name(1, "total", (0, 0, 1, 1))
        table.name(2, "total")
        self.assertIsNone(shown(table).areas("total"))
        table = Table(2, 2)
        table.name(1, "total")
        table.name(2, "total")
        self.assertIsNone(shown(table).areas("total"))

    def test_s1_of_lost_blocks_gone_is_left(self):
        table = Table(2, 2)
        table.name(1, "ab", (0, 0, 0, 1), (1, 0, 1, 0))
        table.delete(2, "row", 0)
        self.assertEqual(shown(table).areas("ab"), [("block", 0, 0, 0, 0)])
        table.delete(2, "row", 0)
        self.assertEqual(shown(table).areas("ab"), [GONE])

    def test_s1_areas_are_placed_in_segments(self):
        table = Table(3, 1)
        table.name(1, "ab", (0, 0, 2, 0))
        table.delete(2, "row", 1)
        table.meet(2, 1)
        self.assertEqual(shown(table).areas("ab"), [("block", 0, 0, 1, 0)])


class SecondWay(unittest.TestCase):
    def test_s1_of_random_histories(self):
        for seed in range(150):
            table = tables.random_table(random.Random(seed), 40)
            edits = table.edits()
            self.assertTrue(same(shown(table), deeds.grid_by_words(table.begin, edits, in_force(edits))), seed)

    def test_s1_in_any_order_of_the_edits(self):
        for seed in range(40):
            chance = random.Random(seed)
            table = tables.random_table(chance, 30)
            mixed = tables.mixed(chance, table.edits())
            again = grid_of(View(table.begin, mixed, in_force(mixed)))
            self.assertTrue(same(again, shown(table)))

    def test_s1_without_some_persons(self):
        for seed in range(60):
            table = tables.random_table(random.Random(seed), 30)
            forced = in_force_without(table.edits(), (1, 3))
            grid = grid_of(View(table.begin, table.edits(), forced))
            self.assertTrue(same(grid, deeds.grid_by_words(table.begin, table.edits(), forced)), seed)

    def test_s1_of_copies(self):
        clashes = 0
        for seed in range(60):
            party = deeds.lived(random.Random(seed), 70)
            for sheet in party.sheets:
                self.assertTrue(deeds.shows_the_words(sheet), seed)
            party.meet()
            self.assertTrue(deeds.shows_the_words(party.sheets[0]), seed)
            clashes += "clash" in [value[1] for value in party.sheets[0].all_values().values() if value[0] == "fault"]
        self.assertGreater(clashes, 5)

    def test_s1_changes_nothing(self):
        table = tables.random_table(random.Random(7), 40)
        view = table.view()
        before = (list(view.edits), list(view.forced), view.live("row"))
        first = grid_of(view)
        for cell in second.cells_in((0, 0, first.rows - 1, first.columns - 1)):
            first.put(cell, [ONE])
        first.name("total", None)
        self.assertEqual((view.edits, view.forced, view.live("row")), before)
        self.assertTrue(same(grid_of(view), shown(table)))


if __name__ == "__main__":
    unittest.main()
