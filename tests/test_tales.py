"""The tales of cells, and who wrote what is shown: h3."""

import random
import unittest

import deeds
import tables
from tables import Table
from tablemates.contents import write_content
from tablemates.effects import in_force
from tablemates.errors import OutOfRange
from tablemates.sheet import Sheet
from tablemates.tales import authors, tale
from tablemates.view import View

ONE = ("number", (1, 1))


def tale_by_words(begin, edits, cell):
    """The words of h3."""
    forced = in_force(edits)
    view = View(begin, edits, forced)
    rows = tables.live_by_words(begin, edits, "row", forced)
    columns = tables.live_by_words(begin, edits, "column", forced)
    place = (rows[cell[0]], columns[cell[1]])
    writes = [(edit, part[2]) for edit in tables.sorted_edits(edits) if edit[2][0] == "write"
              for part in edit[2][1] if part[:2] == place]
    shown = [edit[0] for edit, _ in deeds.shown(writes, forced)]
    found = []
    for edit, content in writes:
        if content[0] == "formula":
            content = ("formula", deeds.placed(view, edit[1], content[1], rows, columns))
        state = "shown" if edit[0] in shown else "covered" if edit[0] in forced else "undone"
        found.append((edit[0], write_content(content), state))
    return found


class Tales(unittest.TestCase):
    def test_h3_no_writes(self):
        self.assertEqual(tale((2, 2), [], (1, 1)), [])
        table = Table(2, 2)
        table.write(1, (0, 0), ONE)
        table.insert(1, "row", 0)
        self.assertEqual(tale((2, 2), table.edits(), (0, 0)), [])
        self.assertEqual(tale((2, 2), table.edits(), (1, 1)), [])

    def test_h3_shown_covered_and_undone(self):
        table = Table(2, 1)
        table.write(1, (0, 0), ONE)
        table.write(1, (0, 0), ("text", "a"))
        table.write(1, (0, 0), ("blank",))
        self.assertEqual(tale((2, 1), table.edits(), (0, 0)), [
            ((1, 1), "1", "covered"), ((1, 2), "a", "covered"), ((1, 3), "", "shown")])
        table.undo(1, 3)
        self.assertEqual(tale((2, 1), table.edits(), (0, 0)), [
            ((1, 1), "1", "covered"), ((1, 2), "a", "shown"), ((1, 3), "", "undone")])
        table.undo(1, 2)
        table.write(2, (0, 0), ONE)
        self.assertEqual(tale((2, 1), table.edits(), (0, 0)), [
            ((1, 1), "1", "shown"), ((2, 1), "1", "shown"), ((1, 2), "a", "undone"), ((1, 3), "", "undone")])

    def test_h3_as_it_is_placed_now(self):
        table = Table(2, 2)
        table.write(1, (0, 0), ("formula", ("cell", 1, 1)))
        table.meet_all()
        table.insert(2, "row", 0)
        table.write(2, (1, 0), ("formula", ("call", "sum", (("block", 0, 0, 2, 1),))))
        self.assertEqual(tale((2, 2), table.edits(), (1, 0)), [
            ((1, 1), "=B3", "covered"), ((2, 2), "=sum(A1:B3)", "shown")])
        table.delete(3, "column", 1)
        self.assertEqual(tale((2, 2), table.edits(), (1, 0)), [
            ((1, 1), "=gone", "covered"), ((2, 2), "=sum(A1:A3)", "shown")])

    def test_h3_lines_that_came_back(self):
        table = Table(1, 1)
        table.write(1, (0, 0), ONE)
        table.delete(2, "row", 0)
        table.insert(2, "row", 0)
        self.assertEqual(tale((1, 1), table.edits(), (0, 0)), [])
        table.undo(2, 2)
        table.undo(2, 1)
        self.assertEqual(tale((1, 1), table.edits(), (0, 0)), [((1, 1), "1", "shown")])

    def test_h3_out_of_range(self):
        table = Table(2, 1)
        table.insert(1, "row", 0)
        for cell in ((3, 0), (0, 1), (-1, 0), (0, -1), (50, 50)):
            with self.assertRaises(OutOfRange) as caught:
                tale((2, 1), table.edits(), cell)
            self.assertEqual(caught.exception.word, "cell")
        self.assertEqual(tale((2, 1), table.edits(), (2, 0)), [])

    def test_h3_by_words(self):
        states = {}
        for seed in range(50):
            chance = random.Random(seed)
            party = deeds.lived(chance, 70)
            party.meet()
            sheet = party.sheets[0]
            edits = tables.mixed(chance, sheet.edits())
            grid = sheet.grid()
            for row in range(grid.rows):
                for column in range(grid.columns):
                    found = tale(sheet.begin(), edits, (row, column))
                    self.assertEqual(found, tale_by_words(sheet.begin(), edits, (row, column)))
                    shown = [one for one in found if one[2] == "shown"]
                    self.assertEqual([one[0] for one in shown], sheet.writers((row, column)))
                    self.assertEqual([one[1] for one in shown] or [""], sheet.texts((row, column)))
                    for one in found:
                        states[one[2]] = states.get(one[2], 0) + 1
        self.assertEqual(sorted(states), ["covered", "shown", "undone"])
        self.assertGreater(min(states.values()), 20)


class Authors(unittest.TestCase):
    def test_h3_authors(self):
        table = Table(2, 2)
        self.assertEqual(authors((2, 2), []), {})
        table.write(3, (0, 0), [ONE, ("blank",)])
        table.write(1, (0, 0), ONE)
        table.write(2, (1, 1), ONE)
        table.write(2, (1, 0), ("blank",))
        self.assertEqual(authors((2, 2), table.edits()), {(0, 0): [1, 3], (1, 1): [2]})
        table.meet_all()
        table.write(4, (0, 0), ("text", "a"))
        table.insert(4, "row", 0)
        self.assertEqual(authors((2, 2), table.edits()), {(1, 0): [4], (2, 1): [2]})

    def test_h3_each_person_once(self):
        sheet = Sheet(1, 1, 1)
        two = sheet.copy_for(2)
        for one in (sheet, two):
            one.write((0, 0), "1")
            one.write((0, 0), "2")
        sheet.take(two.update((0, 0, 0, 0)))
        self.assertEqual(authors((1, 1), sheet.edits()), {(0, 0): [1, 2]})

    def test_h3_writers_of_blanks_in_a_clash(self):
        table = Table(1, 1)
        table.write(2, (0, 0), ("blank",))
        table.write(1, (0, 0), ONE)
        self.assertEqual(authors((1, 1), table.edits()), {(0, 0): [1, 2]})

    def test_h3_by_writers(self):
        for seed in range(40):
            party = deeds.lived(random.Random(seed), 60)
            party.meet()
            sheet = party.sheets[1]
            want = {cell: sorted({writer[0] for writer in sheet.writers(cell)}) for cell in sheet.grid().cells()}
            found = authors(sheet.begin(), tables.mixed(party.chance, sheet.edits()))
            self.assertEqual(found, want)
            found.clear()
            self.assertEqual(authors(sheet.begin(), sheet.edits()), want)


if __name__ == "__main__":
    unittest.main()
