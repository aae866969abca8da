"""Views: m1, with l1 and l2 in them."""

import random
import unittest

import tables
from tablemates.edit import ordered
from tablemates.effects import in_force, in_force_without
from tablemates.live import live_lines
from tablemates.orders import line_order
from tablemates.view import View


def sample():
    table = tables.Table(2, 2)
    table.insert(1, "row", 1)
    table.delete(2, "row", 0)
    table.insert(2, "column", 2)
    return table


class Views(unittest.TestCase):
    def test_m1_fields(self):
        edits = sample().edits()
        view = View((2, 2), edits[::-1], in_force(edits))
        self.assertEqual(view.begin, (2, 2))
        self.assertEqual(view.edits, ordered(edits))
        self.assertIs(type(view.edits), list)
        self.assertEqual(view.forced, [(1, 1), (2, 1), (2, 2)])

    def test_m1_of_no_edits(self):
        view = View((1, 0), [], [])
        self.assertEqual((view.begin, view.edits, view.forced), ((1, 0), [], []))
        self.assertEqual(view.order("row"), [(0, 1)])
        self.assertEqual(view.live("row"), [(0, 1)])
        self.assertEqual(view.live("column"), [])
        self.assertEqual(view.index("row", (0, 1)), 0)
        self.assertIsNone(view.index("column", (0, 1)))

    def test_m1_order_and_live(self):
        view = sample().view()
        self.assertEqual(view.order("row"), [(0, 1), (1, 1), (0, 2)])
        self.assertEqual(view.live("row"), [(1, 1), (0, 2)])
        self.assertEqual(view.order("column"), [(0, 1), (0, 2), (2, 2)])
        self.assertEqual(view.live("column"), [(0, 1), (0, 2), (2, 2)])

    def test_m1_index(self):
        view = sample().view()
        self.assertEqual(view.index("row", (1, 1)), 0)
        self.assertEqual(view.index("row", (0, 2)), 1)
        self.assertEqual(view.index("column", (2, 2)), 2)

    def test_m1_index_of_other_lines_is_none(self):
        view = sample().view()
        self.assertIsNone(view.index("row", (0, 1)))
        self.assertIsNone(view.index("column", (1, 1)))
        self.assertIsNone(view.index("row", (4, 9)))

    def test_m1_only_the_ids_that_count_as_in_force(self):
        edits = sample().edits()
        view = View((2, 2), edits, in_force_without(edits, (2,)))
        self.assertEqual(view.live("row"), [(0, 1), (1, 1), (0, 2)])
        self.assertEqual(view.live("column"), [(0, 1), (0, 2)])
        self.assertEqual(view.order("column"), [(0, 1), (0, 2), (2, 2)])
        self.assertIsNone(view.index("column", (2, 2)))

    def test_m1_random_tables(self):
        for start in range(40):
            chance = random.Random(start)
            table = tables.random_table(chance, 40)
            edits = table.edits()
            forced = in_force_without(edits, chance.choice(((), (1,), (2, 3))))
            view = View(table.begin, tables.mixed(chance, edits), forced)
            for axis in tables.AXES:
                live = live_lines(table.begin, edits, axis, forced)
                self.assertEqual(view.order(axis), line_order(table.begin, edits, axis))
                self.assertEqual(view.live(axis), live)
                for line in view.order(axis):
                    self.assertEqual(view.index(axis, line), live.index(line) if line in live else None)

    def test_basics_lists_that_were_handed_in_or_out_have_no_effect(self):
        edits = sample().edits()
        forced = in_force(edits)
        view = View((2, 2), edits, forced)
        edits.clear()
        forced.clear()
        for axis in tables.AXES:
            view.order(axis).clear()
            view.live(axis).clear()
        self.assertEqual(view.edits, ordered(sample().edits()))
        self.assertEqual(view.forced, [(1, 1), (2, 1), (2, 2)])
        self.assertEqual(view.order("row"), [(0, 1), (1, 1), (0, 2)])
        self.assertEqual(view.live("row"), [(1, 1), (0, 2)])

    def test_basics_arguments_stay_as_they_are(self):
        edits = sample().edits()[::-1]
        forced = in_force(edits)
        View((2, 2), edits, forced)
        self.assertEqual(edits, sample().edits()[::-1])
        self.assertEqual(forced, [(1, 1), (2, 1), (2, 2)])


if __name__ == "__main__":
    unittest.main()
