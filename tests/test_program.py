"""What the program promises as a whole: point 0, with copies that lose updates, get them late or twice, and logs that
are cut."""

import random
import unittest

import deeds
import papers
import second
import tables
from deeds import content_of, everything, outcome
from tablemates.differences import difference, led
from tablemates.digests import compare, digest
from tablemates.effects import in_force
from tablemates.grids import same
from tablemates.judge import grid_of, judge
from tablemates.ledgers import Ledger
from tablemates.logs import Log, opened
from tablemates.looking import grid_at, known
from tablemates.paper import paper_of
from tablemates.plain import Plain
from tablemates.sheet import Sheet
from tablemates.states import grid_of as grid_of_view
from tablemates.tales import authors, tale
from tablemates.view import View

EMPTY = (0, 0, 0, 0)


class Desk:
    """A copy with its log; what was kept with each record, and how much of the log was there when it last sent."""

    def __init__(self, sheet):
        self.sheet = sheet
        self.log = Log(sheet)
        self.kept = {}
        self.sent = 0
        self.keep()
        self.sent = len(self.log.data())

    def keep(self):
        self.log.keep(self.sheet)
        self.kept[len(self.log.data())] = self.sheet.copy_for(self.sheet.person())


class Office:
    """Three desks, and updates on their way between them."""

    def __init__(self, test, seed):
        self.test = test
        self.chance = random.Random(seed)
        first = Sheet(1, self.chance.randint(1, 5), self.chance.randint(1, 4))
        self.desks = [Desk(first)] + [Desk(first.copy_for(person)) for person in (2, 4)]
        self.mail = []
        self.told = {}

    def count(self, name):
        self.told[name] = self.told.get(name, 0) + 1

    def deed(self, desk):
        sheet = desk.sheet
        before = everything(sheet)
        name, value = outcome(sheet, *deeds.deed_for(self.chance, sheet))
        if name == "returns":
            self.test.assertEqual(sheet.edits()[-1][:2], (value, before[2]))
        else:
            self.test.assertEqual(everything(sheet), before)
        self.count(name)

    def send(self, desk):
        desk.keep()
        desk.sent = len(desk.log.data())
        other = self.chance.choice([one for one in self.desks if one is not desk])
        version = self.chance.choice((EMPTY, other.sheet.version()))
        self.mail.append((other, desk.sheet.update(version)))

    def arrive(self):
        if self.mail:
            other, data = self.chance.choice(self.mail)
            before = everything(other.sheet)
            name, value = outcome(other.sheet, "take", data)
            # What a copy made is taken, but for what it took for known and was lost with a log since.
            self.test.assertIn(name, ("returns", "MissingEdits"))
            if name != "returns":
                self.test.assertEqual(everything(other.sheet), before)
            self.count("arrived" if name == "returns" else name)
            way = self.chance.randrange(4)
            if way > 0:
                self.mail.remove((other, data))

    def lose(self):
        if self.mail and self.chance.randrange(2) == 0:
            self.mail.remove(self.chance.choice(self.mail))

    def crash(self, desk):
        """The log of a desk is cut somewhere behind what it sent, and taken up again."""
        data = desk.log.data()
        end = self.chance.randint(desk.sent, len(data))
        person = desk.sheet.person()
        sheet, index = opened(data[:end], person)
        self.test.assertEqual(index, max(one for one in desk.kept if one <= end))
        self.test.assertEqual(everything(sheet), everything(desk.kept[index]))
        self.test.assertEqual(sheet.person(), person)
        self.count("lost" if sheet.version() != desk.sheet.version() else "whole")
        at = self.desks.index(desk)
        self.desks[at] = Desk(sheet)
        self.mail = [(self.desks[at] if other is desk else other, told) for other, told in self.mail]

    def step(self):
        desk = self.chance.choice(self.desks)
        kind = self.chance.randrange(14)
        if kind < 7:
            self.deed(desk)
        elif kind == 7:
            desk.keep()
        elif kind < 10:
            self.send(desk)
        elif kind < 12:
            self.arrive()
        elif kind == 12:
            self.lose()
        else:
            self.crash(desk)

    def meet(self):
        updates = [desk.sheet.update(EMPTY) for desk in self.desks]
        for desk in self.desks:
            for data in self.chance.sample(updates, 3):
                desk.sheet.take(data)
        return [desk.sheet for desk in self.desks]


class Promises(unittest.TestCase):
    def check_paper(self, sheet):
        """The paper of what a copy shows is accepted if its contents can be read again from their strings."""
        grid = sheet.grid()
        paper = paper_of(grid)
        self.assertEqual(paper, papers.paper_by_words(grid))
        texts = [(cell, sheet.texts(cell)) for cell in grid.cells()]
        again = all(papers.content_again(text, grid.rows, grid.columns) for _, told in texts for text in told)
        self.assertEqual(judge(paper) is None, again)
        if again:
            self.assertTrue(same(grid_of(paper), grid))
            self.assertEqual({entry[:2]: entry[3] for entry in paper[4]},
                             {cell: papers.told(value) for cell, value in sheet.all_values().items()})
        return again

    def check_same(self, sheets):
        first = everything(sheets[0])
        paper = paper_of(sheets[0].grid())
        begin, edits = sheets[0].begin(), sheets[0].edits()
        for sheet in sheets:
            self.assertEqual(everything(sheet), first)
            self.assertEqual(paper_of(sheet.grid()), paper)
            self.assertEqual(digest(sheet), digest(sheets[0]))
            self.assertEqual(compare(sheet, digest(sheets[0])), (0, 0))
            self.assertEqual(authors(sheet.begin(), sheet.edits()), authors(begin, edits))
        self.assertTrue(deeds.shows_the_words(sheets[0]))

    def test_0_copies_with_the_same_edits_show_the_same(self):
        told = {}
        for seed in range(60):
            office = Office(self, seed)
            for _ in range(120):
                office.step()
            sheets = office.meet()
            self.check_same(sheets)
            office.count("judged" if self.check_paper(sheets[0]) else "not read again")
            for name, many in office.told.items():
                told[name] = told.get(name, 0) + many
        for name in ("returns", "arrived", "MissingEdits", "OutOfRange", "NothingToRedo", "lost", "whole", "judged"):
            self.assertGreater(told.get(name, 0), 3, (name, told))

    def test_0_on_the_way(self):
        for seed in range(15):
            office = Office(self, 1000 + seed)
            noted = []
            for _ in range(70):
                office.step()
                sheet = office.chance.choice(office.desks).sheet
                noted.append((sheet.version(), content_of(sheet.grid())))
                self.check_paper(sheet)
                self.assertTrue(deeds.shows_the_words(sheet))
                self.assertIsNone(deeds.fault_of(sheet.begin(), sheet.edits()))
            # A copy that lost edits may have made others of the same ids since.
            sheet = office.meet()[0]
            for version, shown in noted:
                if "lost" not in office.told:
                    self.assertTrue(known(sheet.edits(), version))
                    self.assertEqual(content_of(grid_at(sheet.begin(), sheet.edits(), version)), shown)

    def test_0_undo_takes_back_ones_own_last_edit_and_nothing_of_another_person(self):
        undone = 0
        for seed in range(60):
            office = Office(self, 2000 + seed)
            for _ in range(60):
                office.step()
            sheet = office.chance.choice(office.meet())
            before, forced = content_of(sheet.grid()), in_force(sheet.edits())
            own = [edit for edit in sheet.edits() if edit[0][0] == sheet.person()]
            plain = [edit[0] for edit in own if edit[0] in forced and edit[2][0] != "undo"]
            if not plain:
                self.assertEqual(outcome(sheet, "undo"), ("NothingToUndo", {}))
                continue
            sheet.undo()
            undone += 1
            rest = [one for one in forced if one != max(plain)]
            self.assertTrue(same(sheet.grid(), grid_of_view(View(sheet.begin(), sheet.edits(), rest))))
            sheet.redo()
            self.assertEqual(content_of(sheet.grid()), before)
        self.assertGreater(undone, 30)

    def test_0_an_ordinary_spreadsheet_and_its_papers(self):
        for seed in range(20):
            chance = random.Random(seed)
            copies = [Sheet(1, 3, 3)]
            copies += [copies[0].copy_for(person) for person in (2, 3)]
            plain = Plain(3, 3)
            for _ in range(50):
                sheet = chance.choice(copies)
                for other in copies:
                    sheet.take(other.update(sheet.version()))
                deed = deeds.deed_for(chance, sheet, False)
                names = [outcome(thing, *deed)[0] for thing in (sheet, plain)]
                self.assertEqual(names[0], names[1])
            self.assertEqual(paper_of(sheet.grid()), paper_of(plain.grid()))
            # Nothing was made apart, so each content can be read again.
            self.assertIsNone(judge(paper_of(plain.grid())))

    def test_0_what_was_shown_leads_to_what_is_shown(self):
        for seed in range(30):
            office = Office(self, 3000 + seed)
            for _ in range(60):
                office.step()
            sheet = office.meet()[0]
            begin, edits = sheet.begin(), sheet.edits()
            for version in (EMPTY, edits[-1][1] if edits else EMPTY):
                grid = grid_at(begin, edits, version)
                self.assertTrue(same(led(grid, difference(begin, edits, version, sheet.version())), sheet.grid()))
                # A ledger over the cells and the names of the difference comes to the values of the second grid.
                records = difference(begin, edits, version, sheet.version())
                lines = [record for record in records if record[0] in ("deleted", "inserted")]
                ledger = Ledger(led(grid, lines))
                for kind, place, told in records[len(lines):]:
                    if kind == "cell":
                        ledger.put(place, told)
                    elif told == "none":
                        ledger.unname(place)
                    else:
                        ledger.name(place, told)
                self.assertEqual(ledger.all_values(), sheet.all_values())

    def test_0_what_others_wrote_is_told(self):
        for seed in range(20):
            office = Office(self, 4000 + seed)
            for _ in range(80):
                office.step()
            sheet = office.meet()[1]
            for cell, persons in authors(sheet.begin(), sheet.edits()).items():
                shown = [one for one in tale(sheet.begin(), sheet.edits(), cell) if one[2] == "shown"]
                self.assertEqual(sorted({one[0][0] for one in shown}), persons)
                self.assertEqual([one[1] for one in shown], sheet.texts(cell))

    def test_0_values_are_those_of_the_grid(self):
        faults = {}
        for seed in range(60):
            office = Office(self, 5000 + seed)
            for _ in range(60):
                office.step()
            sheet = office.meet()[2]
            self.assertEqual(sheet.all_values(), second.values(sheet.grid()))
            for value in sheet.all_values().values():
                if value[0] == "fault":
                    faults[value[1]] = faults.get(value[1], 0) + 1
        for word in ("clash", "ring", "gone", "unknown"):
            self.assertGreater(faults.get(word, 0), 0, faults)

    def test_0_updates_of_a_person_who_did_not_see_what_they_need(self):
        # Of each edit that is taken out, all that saw it are missing it, and no other one is.
        for seed in range(20):
            office = Office(self, 6000 + seed)
            for _ in range(60):
                office.step()
            sheet = office.meet()[0]
            edits = sheet.edits()
            for edit in edits:
                behind = [one for one in edits if tables.sees(one, edit[0])]
                rest = Sheet(3, *sheet.begin())
                without = [one for one in edits if one != edit and one not in behind]
                self.assertEqual(rest.take(deeds.update_of(sheet, without)), len(without))
                for one in behind:
                    self.assertEqual(outcome(rest, "take", deeds.update_of(sheet, [one])),
                                     ("MissingEdits", {"id": one[0]}))
                self.assertEqual(rest.take(deeds.update_of(sheet, [edit])), 1)
                self.assertEqual(rest.take(deeds.update_of(sheet, behind)), len(behind))
                self.assertEqual(everything(rest), everything(sheet))


if __name__ == "__main__":
    unittest.main()
