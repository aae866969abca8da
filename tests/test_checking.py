"""Which edits were possible, and what is raised of a list of edits: s3, e4."""

import copy
import itertools
import random
import unittest

import deeds
import samples
import tables
from tables import Table
from tablemates.checking import check, possible
from tablemates.edit import closed
from tablemates.errors import ImpossibleEdit, MissingEdits
from tablemates.keeping import keep_content
from tablemates.contents import read_content

ONE = ("number", (1, 1))
A1 = ((0, 1), (0, 1))


def next_edit(table, person, action):
    seen = table.held[person]
    return ((person, seen[person - 1] + 1), seen, action)


class Possible(unittest.TestCase):
    def check(self, table, person, action, want):
        edit = next_edit(table, person, action)
        self.assertIs(possible(table.begin, table.edits(person), edit), want, action)

    def check_all(self, table, person, actions):
        """Compares with what some call has as its action; returns how many were possible."""
        edits = table.edits(person)
        found = 0
        for action in actions:
            edit = next_edit(table, person, action)
            want = deeds.possible_by_calls(table.begin, edits, edit)
            self.assertIs(possible(table.begin, edits, edit), want, action)
            found += want
        return found

    def lived(self):
        """Lines of the beginning and new ones, live and deleted, on both axes."""
        table = Table(3, 2)
        table.insert(1, "row", 1)
        table.insert(2, "row", 1)
        table.meet(1, 2)
        table.delete(1, "row", 0)
        table.delete(1, "column", 1)
        table.insert(1, "column", 0)
        table.insert(2, "column", 2)
        table.write(1, (0, 0), ONE)
        table.undo(1, 5)
        return table

    def lines(self, table):
        lines = [edit[0] for edit in table.edits() if edit[2][0] == "insert"]
        return lines + [(0, 0), (0, 1), (0, 2), (0, 3), (0, 4), (3, 1), (1, 9)]

    def test_s3_insert(self):
        table = self.lived()
        sides = [None] + self.lines(table)
        for axis, want in (("row", 5), ("column", 3)):
            actions = [("insert", axis, left, right) for left, right in itertools.product(sides, sides)]
            self.assertEqual(self.check_all(table, 1, actions), want)

    def test_s3_insert_where_nothing_is_live(self):
        table = Table(1, 0)
        self.check(table, 1, ("insert", "column", None, None), True)
        self.check(table, 1, ("insert", "row", None, None), False)
        self.check(table, 1, ("insert", "row", None, (0, 1)), True)
        table.delete(1, "row", 0)
        self.check(table, 1, ("insert", "row", None, None), True)
        self.check(table, 1, ("insert", "row", None, (0, 1)), False)

    def test_s3_insert_where_many_lines_are_live(self):
        for axis, most in (("row", 12), ("column", 8)):
            table = Table(6, 6)
            for _ in range(most - 6):
                self.check(table, 1, ("insert", axis, (0, 6), None), True)
                table.insert(1, axis, 0)
            self.check(table, 1, ("insert", axis, (0, 6), None), False)
            table.delete(1, axis, 3)
            self.check(table, 1, ("insert", axis, (0, 6), None), True)

    def test_s3_delete(self):
        table = self.lived()
        for axis, want in (("row", 4), ("column", 2)):
            actions = [("delete", axis, line) for line in self.lines(table)]
            self.assertEqual(self.check_all(table, 1, actions), want)

    def test_s3_undo(self):
        for seed in range(40):
            table = tables.random_table(random.Random(seed), 20)
            for person in tables.PERSONS:
                actions = [("undo", number) for number in range(-1, 22)]
                undos, redos = tables.stacks(table.edits(person), person)
                self.assertEqual(self.check_all(table, person, actions), bool(undos) + bool(redos))

    def test_s3_name_words(self):
        table = Table(1, 1)
        for word in ("ab", "abcdefgh", "total", "summ", "goner"):
            self.check(table, 1, ("name", word, ()), True)
        for word in ("", "a", "abcdefghi", "sum", "count", "min", "max", "gone", "Ab", "a1"):
            self.check(table, 1, ("name", word, ()), False)

    def test_s3_name_blocks(self):
        table = self.lived()
        lines = self.lines(table)
        blocks = [(top, left, bottom, right) for top, bottom in itertools.product(lines, lines)
                  for left, right in (((1, 4), (0, 1)), ((0, 1), (1, 4)), ((0, 1), (0, 1)), ((0, 1), (0, 2)))]
        self.assertEqual(self.check_all(table, 1, [("name", "ab", (block,)) for block in blocks]), 20)
        for many, want in ((1, True), (4, True), (5, False)):
            self.check(table, 1, ("name", "ab", (((0, 2), (0, 1), (0, 2), (0, 1)),) * many), want)

    def test_s3_write_has_the_cells_of_a_block_row_by_row(self):
        table = Table(2, 2)
        lines = [((0, row), (0, column)) for row in (1, 2, 3) for column in (1, 2)]
        found = 0
        for many in range(5):
            for cells in itertools.permutations(lines, many):
                action = ("write", tuple(cell + (ONE,) for cell in cells))
                found += self.check_all(table, 1, [action])
        self.assertEqual(found, 9)
        self.check(table, 1, ("write", ()), False)
        self.check(table, 1, ("write", (A1 + (ONE,),) * 2), False)

    def test_s3_write_only_into_live_cells(self):
        table = self.lived()
        lines = self.lines(table)
        actions = [("write", ((row, column, ONE),)) for row, column in itertools.product(lines, lines)]
        self.assertEqual(self.check_all(table, 1, actions), 8)

    def content(self, content, want, table=None):
        self.check(table or Table(2, 2), 1, ("write", (A1 + (content,),)), want)

    def test_s3_texts_and_numbers(self):
        for text in ("a", " ", " 12", "1/2", "-", "--1", "1.", ".5", "1e3", "0" * 13, "a" * 60, "a" * 61, "a" * 500):
            self.content(("text", text), True)
        for text in ("", "12", "-0", "0.50", "=", "=A1", "=x", "007"):
            self.content(("text", text), False)
        for x in ((0, 1), (-1, 2), (999999999999, 1), (10 ** 18 - 1, 10 ** 6), (1, 10 ** 6)):
            self.content(("number", x), True)
        for x in ((2, 4), (0, 2), (1, 3), (10 ** 12, 1), (1, 10 ** 7), (-10 ** 19, 1), (1, 10 ** 20)):
            self.content(("number", x), False)
        self.content(("blank",), True)

    def test_s3_formulas(self):
        cell = ("cell", (0, 2), (0, 2))
        block = ("block", (0, 1), (0, 1), (0, 2), (0, 2))
        number = ("num", (1, 2))
        for tree in (
                cell, number, ("gone",), ("neg", cell), ("neg", ("neg", cell)), ("op", "-", cell, ("neg", number)),
                ("call", "sum", (block,)), ("call", "max", (("gone",), ("name", "ab"), block)),
                ("op", "/", ("op", "+", cell, cell), ("op", "*", cell, cell))):
            self.content(("formula", tree), True)
        for tree in (
                ("num", (-1, 2)), ("num", (2, 4)), ("num", (1, 3)), ("num", (10 ** 12, 1)),
                ("cell", (0, 3), (0, 1)), ("cell", (0, 1), (0, 3)), ("cell", (1, 1), (0, 1)),
                ("call", "sum", ()), ("call", "sum", (("name", "sum"),)), ("call", "sum", (("name", "gone"),)),
                ("call", "sum", (("block", (0, 2), (0, 1), (0, 1), (0, 2)),)),
                ("call", "sum", (("block", (0, 1), (0, 2), (0, 2), (0, 1)),)),
                ("call", "sum", (("block", (0, 1), (0, 1), (0, 3), (0, 1)),)),
                ("call", "sum", (block, ("block", (4, 1), (0, 1), (0, 2), (0, 1)))),
                ("op", "+", cell, ("num", (-1, 2))), ("neg", ("cell", (0, 9), (0, 1)))):
            self.content(("formula", tree), False)

    def test_s3_formulas_as_long_as_may_be(self):
        cell = ("cell", (0, 1), (0, 1))
        areas = (("name", "ab"),)
        for many, want in ((14, True), (15, False)):
            self.content(("formula", ("call", "sum", areas * many)), want)
        tree = cell
        for depth in range(1, 9):
            tree = ("op", "-", cell, tree)
            self.content(("formula", tree), depth <= 7)

    def test_s3_a_block_of_lines_that_are_not_live(self):
        table = Table(3, 1)
        block = ("block", (0, 1), (0, 1), (0, 3), (0, 1))
        table.delete(1, "row", 1)
        self.check(table, 1, ("write", (A1 + (("formula", ("call", "sum", (block,))),),)), True)
        self.check(table, 1, ("name", "ab", (block[1:],)), True)
        table.delete(1, "row", 1)
        self.check(table, 1, ("write", (A1 + (("formula", ("call", "sum", (block,))),),)), False)
        self.check(table, 1, ("name", "ab", (block[1:],)), False)

    def test_s3_random_contents(self):
        chance = random.Random(3)
        wanted = {True: 0, False: 0}
        for _ in range(400):
            table = Table(chance.randint(1, 3), chance.randint(1, 3))
            content = tables.random_content(chance, 3, 3, 3)
            kept = tables.kept_content(content, [(0, 1), (0, 2), (0, 3)], [(0, 1), (0, 2), (0, 3)])
            edit = next_edit(table, 1, ("write", (A1 + (kept,),)))
            want = deeds.possible_by_calls(table.begin, [], edit)
            self.assertIs(possible(table.begin, [], edit), want)
            wanted[want] += 1
            text = "=" + samples.short_formula(chance, 3, 3)
            kept = tables.kept_content(read_content(text, 3, 3), [(0, 1), (0, 2), (0, 3)], [(0, 1), (0, 2), (0, 3)])
            self.content(kept, True, Table(3, 3))
        self.assertGreater(min(wanted.values()), 50)

    def test_s3_fewer_than_60_edits(self):
        table = Table(1, 1)
        for many in range(60):
            self.check(table, 1, ("write", (A1 + (ONE,),)), True)
            table.write(1 + many % 2, (0, 0), ONE)
            table.meet_all()
        for action in (("write", (A1 + (ONE,),)), ("insert", "row", None, (0, 1)), ("delete", "row", (0, 1)),
                       ("name", "ab", ()), ("undo", 30)):
            self.check(table, 1, action, False)

    def test_s3_all_edits_that_were_made(self):
        for seed in range(60):
            party = deeds.lived(random.Random(seed), 60)
            for sheet in party.sheets:
                for edit in sheet.edits():
                    seen = [other for other in sheet.edits() if tables.sees(edit, other[0])]
                    self.assertIs(possible(sheet.begin(), seen, edit), True)


class Check(unittest.TestCase):
    def check(self, begin, edits, want):
        before = copy.deepcopy(edits)
        if want is None:
            self.assertIsNone(check(begin, edits))
        else:
            error = {"MissingEdits": MissingEdits, "ImpossibleEdit": ImpossibleEdit}[want[0]]
            with self.assertRaises(error) as caught:
                check(begin, edits)
            self.assertEqual(vars(caught.exception), {"id": want[1]})
        self.assertEqual(edits, before)

    def made(self, person, *versions):
        """Writes of a person with these versions."""
        return [((person, number), seen, ("write", (A1 + (ONE,),))) for number, seen in enumerate(versions, 1)]

    def test_s3_valid_lists(self):
        self.check((1, 1), [], None)
        for seed in range(60):
            chance = random.Random(seed)
            table = tables.random_table(chance, 40)
            # Some contents of these tables are none of a call.
            want = deeds.fault_of(table.begin, table.edits())
            self.check(table.begin, tables.mixed(chance, table.edits()), want)

    def test_s3_wrong_entry_for_its_own_person(self):
        first = self.made(1, (0, 0, 0, 0))
        for entry in (0, 2, 3):
            edit = ((1, 2), (entry, 0, 0, 0), first[0][2])
            self.check((1, 1), first + [edit], ("MissingEdits", (1, 2)))
        self.check((1, 1), [((1, 1), (1, 0, 0, 0), first[0][2])], ("MissingEdits", (1, 1)))

    def test_s3_an_id_that_is_not_there(self):
        edits = self.made(1, (0, 0, 0, 0), (1, 0, 0, 0), (2, 0, 0, 0))
        self.check((1, 1), edits, None)
        self.check((1, 1), edits[1:], ("MissingEdits", (1, 2)))
        self.check((1, 1), edits[:1] + edits[2:], ("MissingEdits", (1, 3)))
        other = self.made(2, (3, 0, 0, 0))
        self.check((1, 1), edits + other, None)
        self.check((1, 1), edits[:2] + other, ("MissingEdits", (2, 1)))
        self.check((1, 1), edits[:1] + edits[2:] + other, ("MissingEdits", (1, 3)))
        self.check((1, 1), self.made(4, (0, 0, 0, 0)) + self.made(2, (0, 0, 100000, 0)), ("MissingEdits", (2, 1)))

    def test_s3_does_not_include_the_version_of_an_edit_that_it_counts(self):
        edits = self.made(1, (0, 0, 0, 0)) + self.made(2, (1, 0, 0, 0)) + self.made(3, (0, 1, 0, 0))
        self.check((1, 1), edits, ("MissingEdits", (3, 1)))
        edits[2] = ((3, 1), (1, 1, 0, 0), edits[2][2])
        self.check((1, 1), edits, None)

    def test_s3_the_first_one_in_the_order(self):
        # Both are wrong: the stamp of the one is 3, that of the other 4.
        edits = [((4, 1), (0, 0, 2, 0), ("undo", 1)), ((1, 1), (3, 0, 0, 0), ("undo", 1))]
        self.check((1, 1), edits, ("MissingEdits", (4, 1)))
        self.check((1, 1), edits[::-1], ("MissingEdits", (4, 1)))
        edits = [((4, 1), (0, 0, 2, 0), ("undo", 1)), ((1, 1), (2, 0, 0, 0), ("undo", 1))]
        self.check((1, 1), edits, ("MissingEdits", (1, 1)))

    def test_s3_missing_edits_come_ahead_of_impossible_ones(self):
        edits = [((1, 1), (0, 0, 0, 0), ("undo", 1)), ((2, 1), (2, 0, 0, 0), ("undo", 1))]
        self.check((1, 1), edits, ("MissingEdits", (2, 1)))
        self.check((1, 1), edits[:1], ("ImpossibleEdit", (1, 1)))

    def test_s3_the_first_impossible_one(self):
        edits = self.made(1, (0, 0, 0, 0)) + [
            ((2, 1), (1, 0, 0, 0), ("delete", "row", (0, 2))), ((3, 1), (0, 0, 0, 0), ("undo", 1))]
        self.check((1, 1), edits, ("ImpossibleEdit", (3, 1)))
        self.check((2, 1), edits, ("ImpossibleEdit", (3, 1)))
        self.check((1, 1), edits[:2], ("ImpossibleEdit", (2, 1)))
        self.check((2, 1), edits[:2], None)

    def test_s3_only_by_what_an_edit_has_seen(self):
        insert = ((1, 1), (0, 0, 0, 0), ("insert", "row", None, None))
        self.check((0, 1), [insert, ((2, 1), (1, 0, 0, 0), ("delete", "row", (1, 1)))], None)
        self.check((0, 1), [insert, ((2, 1), (0, 0, 0, 0), ("delete", "row", (1, 1)))], ("ImpossibleEdit", (2, 1)))
        # Two persons may delete one line, and insert at one place, apart from one another.
        both = [((person, 1), (0, 0, 0, 0), ("delete", "row", (0, 1))) for person in (1, 2, 3, 4)]
        self.check((1, 1), both, None)

    def test_s3_more_than_60_edits_that_were_made_apart(self):
        table = Table(1, 1)
        for person in (1, 2):
            for _ in range(40):
                table.write(person, (0, 0), ONE)
        self.check((1, 1), table.edits(), None)
        table.meet_all()
        table.write(3, (0, 0), ONE)
        self.check((1, 1), table.edits(), ("ImpossibleEdit", (3, 1)))

    def test_s3_lists_that_lack_an_edit(self):
        lacking = 0
        for seed in range(25):
            sheet = deeds.lived(random.Random(seed), 50).sheets[0]
            edits = sheet.edits()
            for at in range(len(edits)):
                rest = edits[:at] + edits[at + 1:]
                want = deeds.fault_of(sheet.begin(), rest)
                self.check(sheet.begin(), rest, want)
                self.assertEqual(want is None, closed(rest))
                lacking += want is not None
        self.assertGreater(lacking, 50)

    def test_s3_lists_with_a_changed_edit(self):
        found = {"MissingEdits": 0, "ImpossibleEdit": 0, None: 0}
        for seed in range(60):
            chance = random.Random(seed)
            sheet = deeds.lived(chance, 40).sheets[0]
            edits = sheet.edits()
            for _ in range(5):
                at = chance.randrange(len(edits)) if edits else 0
                for edit_id, seen, action in edits[at:at + 1]:
                    if chance.randrange(2) == 0:
                        entry = chance.randrange(4)
                        seen = seen[:entry] + (chance.randint(0, seen[entry] + 1),) + seen[entry + 1:]
                    else:
                        action = chance.choice(edits)[2]
                    changed = edits[:at] + [(edit_id, seen, action)] + edits[at + 1:]
                    want = deeds.fault_of(sheet.begin(), changed)
                    self.check(sheet.begin(), changed, want)
                    found[want and want[0]] += 1
        self.assertGreater(min(found.values()), 20)


class Kept(unittest.TestCase):
    def test_s3_what_a_call_keeps_was_possible(self):
        # Of each content that a view keeps, the write of it was possible there.
        for seed in range(40):
            chance = random.Random(seed)
            table = tables.random_table(chance, 20, (3, 3))
            view = table.view()
            rows, columns = view.live("row"), view.live("column")
            if rows and columns:
                table.meet_all()
                text = "=" + samples.short_formula(chance, len(rows), len(columns))
                kept = keep_content(view, read_content(text, len(rows), len(columns)))
                edit = next_edit(table, 1, ("write", ((rows[0], columns[-1], kept),)))
                self.assertIs(possible(table.begin, table.edits(), edit), True)


if __name__ == "__main__":
    unittest.main()
