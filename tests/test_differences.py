"""Differences of two known versions: h2."""

import random
import unittest

import deeds
import tables
from deeds import content_of
from tables import Table
from tablemates.differences import difference, led
from tablemates.effects import in_force
from tablemates.errors import UnknownVersion
from tablemates.grids import Grid, same
from tablemates.looking import grid_at, versions

ONE = ("number", (1, 1))
NONE = (0, 0, 0, 0)


def difference_by_words(begin, edits, first, second):
    """The words of h2, by the second ways to lines and grids."""
    held = [[edit for edit in edits if edit[0][1] <= version[edit[0][0] - 1]] for version in (first, second)]
    forced = [in_force(part) for part in held]
    grids = [deeds.grid_by_words(begin, part, force) for part, force in zip(held, forced)]
    lines = {axis: [tables.live_by_words(begin, part, axis, force) for part, force in zip(held, forced)]
             for axis in tables.AXES}
    found = []
    for axis in tables.AXES:
        gone = [at for at, line in enumerate(lines[axis][0]) if line not in lines[axis][1]]
        found += [("deleted", axis, at) for at in sorted(gone, reverse=True)]
    for axis in tables.AXES:
        found += [("inserted", axis, at) for at, line in enumerate(lines[axis][1]) if line not in lines[axis][0]]
    for down, row in enumerate(lines["row"][1]):
        for right, column in enumerate(lines["column"][1]):
            old = []
            if row in lines["row"][0] and column in lines["column"][0]:
                old = grids[0].shown((lines["row"][0].index(row), lines["column"][0].index(column)))
            if grids[1].shown((down, right)) != old:
                found.append(("cell", (down, right), grids[1].shown((down, right))))
    names = [{word: grid.areas(word) for word in grid.words()} for grid in grids]
    for word in sorted(set(names[0]) | set(names[1])):
        if names[0].get(word, "none") != names[1].get(word, "none"):
            found.append(("name", word, names[1].get(word, "none")))
    return found


class Examples(unittest.TestCase):
    def check(self, table, first, second, want):
        found = difference(table.begin, table.edits(), first, second)
        self.assertEqual(found, want)
        grid = grid_at(table.begin, table.edits(), first)
        before = content_of(grid)
        self.assertTrue(same(led(grid, found), grid_at(table.begin, table.edits(), second)))
        self.assertEqual(content_of(grid), before)

    def test_h2_no_difference(self):
        table = Table(2, 2)
        self.check(table, NONE, NONE, [])
        table.write(1, (0, 0), ONE)
        self.check(table, (1, 0, 0, 0), (1, 0, 0, 0), [])
        table.write(1, (0, 0), ONE)
        self.check(table, (1, 0, 0, 0), (2, 0, 0, 0), [])

    def test_h2_lines(self):
        table = Table(3, 1)
        table.insert(1, "row", 1)
        table.insert(1, "column", 0)
        table.insert(1, "row", 0)
        self.check(table, NONE, (3, 0, 0, 0), [
            ("inserted", "row", 0), ("inserted", "row", 2), ("inserted", "column", 0)])
        self.check(table, (3, 0, 0, 0), NONE, [
            ("deleted", "row", 2), ("deleted", "row", 0), ("deleted", "column", 0)])
        self.check(table, (1, 0, 0, 0), (2, 0, 0, 0), [("inserted", "column", 0)])

    def test_h2_deletes_come_ahead_of_inserts(self):
        table = Table(2, 2)
        table.delete(1, "row", 0)
        table.delete(1, "column", 1)
        table.insert(1, "column", 1)
        table.insert(1, "row", 1)
        self.check(table, NONE, (4, 0, 0, 0), [
            ("deleted", "row", 0), ("deleted", "column", 1), ("inserted", "row", 1), ("inserted", "column", 1)])

    def test_h2_versions_apart_from_one_another(self):
        table = Table(2, 1)
        table.insert(1, "row", 1)
        table.write(1, (1, 0), ONE)
        table.delete(2, "row", 1)
        self.check(table, (2, 0, 0, 0), (0, 1, 0, 0), [("deleted", "row", 2), ("deleted", "row", 1)])
        self.check(table, (0, 1, 0, 0), (2, 0, 0, 0), [
            ("inserted", "row", 1), ("inserted", "row", 2), ("cell", (1, 0), [ONE])])

    def test_h2_cells(self):
        table = Table(2, 2)
        table.write(1, (0, 0), [ONE, ("text", "a")], [("formula", ("cell", 0, 0)), ("blank",)])
        table.write(2, (0, 1), ("blank",))
        self.check(table, NONE, (1, 1, 0, 0), [
            ("cell", (0, 0), [ONE]), ("cell", (0, 1), [("text", "a"), ("blank",)]),
            ("cell", (1, 0), [("formula", ("cell", 0, 0))])])
        self.check(table, (1, 1, 0, 0), (0, 1, 0, 0), [
            ("cell", (0, 0), []), ("cell", (0, 1), []), ("cell", (1, 0), [])])

    def test_h2_indexes_are_compared_as_they_stand(self):
        table = Table(2, 1)
        table.write(1, (1, 0), ("formula", ("cell", 0, 0)))
        table.insert(1, "row", 0)
        self.check(table, (1, 0, 0, 0), (2, 0, 0, 0), [
            ("inserted", "row", 0), ("cell", (2, 0), [("formula", ("cell", 1, 0))])])

    def test_h2_cells_of_lines_that_were_not_live(self):
        table = Table(1, 1)
        table.insert(1, "row", 0)
        table.write(1, (0, 0), [ONE], [ONE])
        table.undo(1, 2)
        table.undo(1, 1)
        self.check(table, (4, 0, 0, 0), (2, 0, 0, 0), [
            ("inserted", "row", 0), ("cell", (0, 0), [ONE]), ("cell", (1, 0), [ONE])])
        self.check(table, (2, 0, 0, 0), (4, 0, 0, 0), [("deleted", "row", 0), ("cell", (0, 0), [])])

    def test_h2_names(self):
        table = Table(2, 2)
        table.name(1, "total", (0, 0, 1, 1))
        table.name(1, "ab", (0, 0, 0, 0))
        self.check(table, NONE, (2, 0, 0, 0), [
            ("name", "ab", [("block", 0, 0, 0, 0)]), ("name", "total", [("block", 0, 0, 1, 1)])])
        self.check(table, (2, 0, 0, 0), NONE, [("name", "ab", "none"), ("name", "total", "none")])
        table.name(2, "total")
        self.check(table, (2, 0, 0, 0), (2, 1, 0, 0), [("name", "total", None)])
        self.check(table, (2, 1, 0, 0), (1, 0, 0, 0), [
            ("name", "ab", "none"), ("name", "total", [("block", 0, 0, 1, 1)])])
        table.delete(1, "row", 0)
        self.check(table, (2, 0, 0, 0), (3, 0, 0, 0), [
            ("deleted", "row", 0), ("name", "ab", [("gone",)]), ("name", "total", [("block", 0, 0, 0, 1)])])

    def test_h2_unknown_version(self):
        table = Table(1, 1)
        table.write(1, (0, 0), ONE)
        table.meet(2, 1)
        table.write(2, (0, 0), ONE)
        for first, second in (((0, 1, 0, 0), NONE), (NONE, (0, 1, 0, 0)), ((0, 1, 0, 0), (2, 0, 0, 0))):
            with self.assertRaises(UnknownVersion) as caught:
                difference((1, 1), table.edits(), first, second)
            self.assertEqual(vars(caught.exception), {})


class Led(unittest.TestCase):
    def test_h2_of_any_grid(self):
        grid = Grid(2, 2)
        grid.put((0, 0), [("formula", ("cell", 1, 1))])
        grid.put((1, 1), [ONE])
        grid.name("ab", [("block", 1, 1, 1, 1)])
        before = content_of(grid)
        found = led(grid, [("deleted", "row", 0), ("inserted", "row", 1), ("inserted", "column", 0),
                           ("cell", (1, 0), [ONE, ("blank",)]), ("name", "ab", "none"), ("name", "total", None)])
        self.assertEqual(content_of(found), (2, 3, {(0, 2): [ONE], (1, 0): [ONE, ("blank",)]}, {"total": None}))
        self.assertEqual(content_of(grid), before)

    def test_h2_lines_are_moved_with_all_other_contents_as_they_are(self):
        grid = Grid(2, 1)
        grid.put((1, 0), [("formula", ("cell", 0, 0))])
        grid.name("ab", [("block", 0, 0, 1, 0)])
        names = {"ab": [("block", 0, 0, 1, 0)]}
        self.assertEqual(content_of(led(grid, [("deleted", "row", 0)])),
                         (1, 1, {(0, 0): [("formula", ("cell", 0, 0))]}, names))
        self.assertEqual(content_of(led(grid, [("inserted", "row", 0)])),
                         (3, 1, {(2, 0): [("formula", ("cell", 0, 0))]}, names))

    def test_h2_the_empty_difference_gives_a_copy(self):
        grid = Grid(1, 1)
        found = led(grid, [])
        found.put((0, 0), [ONE])
        self.assertEqual(grid.cells(), [])

    def test_h2_records_stay_as_they_are(self):
        shown, areas = [ONE], [("block", 0, 0, 0, 0)]
        records = [("cell", (0, 0), shown), ("name", "ab", areas)]
        found = led(Grid(1, 1), records)
        self.assertEqual(records, [("cell", (0, 0), [ONE]), ("name", "ab", [("block", 0, 0, 0, 0)])])
        shown.clear()
        areas.clear()
        self.assertEqual(content_of(found), (1, 1, {(0, 0): [ONE]}, {"ab": [("block", 0, 0, 0, 0)]}))


class SecondWay(unittest.TestCase):
    def test_h2_of_random_histories(self):
        kinds = {}
        for seed in range(40):
            chance = random.Random(seed)
            party = deeds.lived(chance, 60)
            party.meet()
            begin, edits = party.sheets[0].begin(), tables.mixed(chance, party.sheets[0].edits())
            listed = versions(edits)
            for _ in range(8):
                first, second = chance.choice(listed), chance.choice(listed)
                found = difference(begin, edits, first, second)
                self.assertEqual(found, difference_by_words(begin, edits, first, second))
                grids = [grid_at(begin, edits, version) for version in (first, second)]
                self.assertTrue(same(led(grids[0], found), grids[1]))
                back = difference(begin, edits, second, first)
                self.assertTrue(same(led(grids[1], back), grids[0]))
                self.assertEqual(difference(begin, edits, first, first), [])
                for record in found:
                    kinds[record[0]] = kinds.get(record[0], 0) + 1
        self.assertGreater(min(kinds[kind] for kind in ("deleted", "inserted", "cell", "name")), 100)

    def test_h2_from_one_version_to_the_next(self):
        for seed in range(20):
            party = deeds.lived(random.Random(seed), 50)
            sheet = party.sheets[0]
            begin, edits = sheet.begin(), sheet.edits()
            grid = grid_at(begin, edits, NONE)
            version = NONE
            for (person, number), _, _ in edits:
                later = version[:person - 1] + (number,) + version[person:]
                grid = led(grid, difference(begin, edits, version, later))
                version = later
            self.assertTrue(same(grid, sheet.grid()))


if __name__ == "__main__":
    unittest.main()
