"""Copies of a sheet: their calls, bounds and errors, taking updates, undo and redo: c2, c5, s2, s4, s5, u1, u2."""

import copy
import random
import unittest

import deeds
import second
import tables
from deeds import content_of, everything, outcome
from tablemates.edit import version_of
from tablemates.effects import in_force, in_force_without
from tablemates.errors import InvalidBytes, OutOfRange, TableError
from tablemates.grids import same
from tablemates.rings import values_of
from tablemates.sheet import Sheet
from tablemates.states import grid_of
from tablemates.view import View
from tablemates.wire import read_update, write_update

EMPTY = (0, 0, 0, 0)


def full_sheet(person=1, many=60):
    """A copy of one cell that holds so many edits."""
    sheet = Sheet(person, 1, 1)
    for at in range(many):
        sheet.write((0, 0), str(at))
    return sheet


def grids_of(sheet, edits):
    return grid_of(View(sheet.begin(), edits, in_force(edits)))


class Calls(unittest.TestCase):
    def raises(self, name, fields, thing, *deed):
        """The call raises this error with these fields, and changes nothing."""
        before = everything(thing)
        self.assertEqual(outcome(thing, *deed), (name, fields), deed)
        self.assertEqual(everything(thing), before)

    def out_of_range(self, word, thing, *deed):
        self.raises("OutOfRange", {"word": word}, thing, *deed)


class Beginning(Calls):
    def test_a_new_copy(self):
        for person in (1, 2, 3, 4):
            for rows, columns in ((0, 0), (8, 6), (3, 2)):
                sheet = Sheet(person, rows, columns)
                self.assertEqual(sheet.person(), person)
                self.assertEqual(sheet.begin(), (rows, columns))
                self.assertEqual(sheet.edits(), [])
                self.assertEqual(sheet.version(), EMPTY)
                self.assertEqual(content_of(sheet.grid()), (rows, columns, {}, {}))
                self.assertEqual(sheet.all_values(), {})
                self.assertEqual(sheet.update(EMPTY), [rows, columns, 0])

    def test_out_of_range_in_the_order_of_the_parameters(self):
        for arguments, word in (
                ((0, 2, 2), "person"), ((5, 2, 2), "person"), ((-1, 9, 9), "person"),
                ((1, -1, 2), "rows"), ((1, 9, 2), "rows"), ((1, 9, 7), "rows"), ((4, 100, -1), "rows"),
                ((1, 2, -1), "columns"), ((1, 2, 7), "columns"), ((1, 8, 100), "columns")):
            with self.assertRaises(OutOfRange) as caught:
                Sheet(*arguments)
            self.assertEqual(caught.exception.word, word)

    def test_copy_for(self):
        sheet = Sheet(1, 2, 2)
        sheet.write((0, 0), "1")
        other = sheet.copy_for(3)
        self.assertEqual(other.person(), 3)
        self.assertEqual(everything(other), everything(sheet))
        other.write((0, 1), "2")
        sheet.insert("row", 0)
        self.assertEqual((sheet.version(), other.version()), ((2, 0, 0, 0), (1, 0, 1, 0)))
        self.assertEqual(sheet.copy_for(1).write((0, 0), ""), (1, 3))
        for person in (0, 5, -1):
            self.out_of_range("person", sheet, "copy_for", person)


class Editing(Calls):
    def test_ids_and_versions(self):
        one = Sheet(1, 2, 2)
        self.assertEqual(one.insert("row", 0), (1, 1))
        self.assertEqual(one.delete("column", 1), (1, 2))
        two = one.copy_for(2)
        self.assertEqual(two.write((0, 0), "a"), (2, 1))
        self.assertEqual(two.write_block((1, 0), [["b"], ["c"]]), (2, 2))
        self.assertEqual(two.copy((1, 0, 1, 0), (0, 0)), (2, 3))
        self.assertEqual(two.name("ab", [(0, 0, 0, 0)]), (2, 4))
        self.assertEqual(two.undo(), (2, 5))
        self.assertEqual(two.redo(), (2, 6))
        self.assertEqual(two.version(), (2, 6, 0, 0))
        self.assertEqual([edit[1] for edit in two.edits()], [(min(at, 2), max(at - 2, 0), 0, 0) for at in range(8)])
        self.assertEqual(two.edits()[2:], [
            ((2, 1), (2, 0, 0, 0), ("write", (((1, 1), (0, 1), ("text", "a")),))),
            ((2, 2), (2, 1, 0, 0), ("write", (((0, 1), (0, 1), ("text", "b")), ((0, 2), (0, 1), ("text", "c"))))),
            ((2, 3), (2, 2, 0, 0), ("write", (((1, 1), (0, 1), ("text", "b")),))),
            ((2, 4), (2, 3, 0, 0), ("name", "ab", (((1, 1), (0, 1), (1, 1), (0, 1)),))),
            ((2, 5), (2, 4, 0, 0), ("undo", 4)),
            ((2, 6), (2, 5, 0, 0), ("undo", 5))])

    def test_what_is_shown(self):
        sheet = Sheet(1, 2, 2)
        sheet.write_block((0, 0), [["3", "= A1*2"], ["'a", "=sum(ab)"]])
        sheet.name("ab", [(0, 0, 0, 1)])
        self.assertEqual([sheet.texts(cell) for cell in sheet.grid().cells()],
                         [["3"], ["=A1 * 2"], ["'a"], ["=sum(ab)"]])
        self.assertEqual(sheet.all_values(), {
            (0, 0): ("number", (3, 1)), (0, 1): ("number", (6, 1)), (1, 0): ("text", "'a"),
            (1, 1): ("number", (9, 1))})
        sheet.delete("row", 0)
        self.assertEqual(sheet.texts((0, 1)), ["=sum(ab)"])
        self.assertEqual(sheet.all_values()[(0, 1)], ("fault", "gone"))

    def test_texts_and_writers(self):
        one = Sheet(1, 2, 1)
        two = one.copy_for(2)
        self.assertEqual((one.texts((0, 0)), one.writers((0, 0))), ([""], []))
        one.write((0, 0), "1")
        one.write((0, 0), "")
        self.assertEqual((one.texts((0, 0)), one.writers((0, 0))), ([""], [(1, 2)]))
        two.write((0, 0), "=A2")
        two.take(one.update(EMPTY))
        self.assertEqual((two.texts((0, 0)), two.writers((0, 0))), (["=A2", ""], [(2, 1), (1, 2)]))
        two.insert("row", 0)
        self.assertEqual((two.texts((1, 0)), two.writers((1, 0))), (["=A3", ""], [(2, 1), (1, 2)]))
        for cell in ((-1, 0), (0, -1), (3, 0), (0, 1), (99, 99)):
            self.out_of_range("cell", two, "texts", cell)
            self.out_of_range("cell", two, "writers", cell)

    def test_the_errors_of_calls(self):
        sheet = Sheet(1, 2, 2)
        sheet.write((0, 0), "1")
        self.out_of_range("index", sheet, "insert", "row", 3)
        self.out_of_range("index", sheet, "delete", "column", 2)
        self.out_of_range("cell", sheet, "write", (2, 0), "=*")
        self.out_of_range("cell", sheet, "write_block", (1, 0), [["1"], ["=*"]])
        self.raises("FormulaFault", {"place": 0, "word": "unexpected"}, sheet, "write_block", (0, 0), [["1"], ["=*"]])
        self.raises("FormulaFault", {"place": 1, "word": "end"}, sheet, "write", (0, 0), "=-")
        self.out_of_range("block", sheet, "copy", (0, 0, 2, 0), (5, 5))
        self.out_of_range("cell", sheet, "copy", (0, 0, 1, 0), (1, 0))
        self.out_of_range("word", sheet, "name", "sum", [(9, 9, 9, 9)])
        self.out_of_range("blocks", sheet, "name", "ab", [(0, 0, 0, 0)] * 5)
        self.raises("NothingToRedo", {}, sheet, "redo")
        sheet.undo()
        self.raises("NothingToUndo", {}, sheet, "undo")

    def test_random_calls_that_raise_change_nothing(self):
        raised = {}
        for seed in range(40):
            party = deeds.Party(random.Random(seed), 2, 2)
            for _ in range(40):
                sheet = party.chance.choice(party.sheets)
                before = everything(sheet)
                deed = deeds.deed_for(party.chance, sheet)
                arguments = copy.deepcopy(deed)
                name, told = outcome(sheet, *deed)
                self.assertEqual(deed, arguments)
                if name == "returns":
                    self.assertEqual(told, sheet.edits()[-1][0])
                    self.assertEqual(sheet.edits()[:-1], before[1])
                else:
                    raised[name] = raised.get(name, 0) + 1
                    self.assertEqual(everything(sheet), before)
        self.assertEqual(sorted(raised), ["FormulaFault", "NothingToRedo", "NothingToUndo", "OutOfRange"])

    def test_what_is_returned_is_new(self):
        sheet = Sheet(1, 2, 2)
        sheet.write_block((0, 0), [["1", "2"]])
        sheet.name("ab", [(0, 0, 0, 1)])
        before = everything(sheet)
        sheet.edits().clear()
        sheet.grid().put((0, 0), [])
        sheet.grid().unname("ab")
        sheet.grid().areas("ab").clear()
        sheet.all_values().clear()
        sheet.texts((0, 0)).append("x")
        sheet.writers((0, 0)).append((4, 4))
        sheet.update(EMPTY).append(0)
        self.assertEqual(everything(sheet), before)

    def test_what_is_handed_in_stays_and_has_no_effect_later(self):
        sheet = Sheet(1, 2, 2)
        texts, blocks, data = [["1", "2"]], [(0, 0, 0, 1)], Sheet(1, 2, 2).update(EMPTY)
        sheet.write_block((0, 0), texts)
        sheet.name("ab", blocks)
        self.assertEqual(sheet.take(data), 0)
        self.assertEqual((texts, blocks, data), ([["1", "2"]], [(0, 0, 0, 1)], [2, 2, 0]))
        before = everything(sheet)
        texts[0].clear()
        blocks.clear()
        data.clear()
        self.assertEqual(everything(sheet), before)


class Bounds(Calls):
    def test_c2_fewer_than_12_rows_and_8_columns(self):
        for axis, most in (("row", 12), ("column", 8)):
            sheet = Sheet(1, 6, 6)
            for at in range(most - 6):
                self.assertEqual(outcome(sheet, "insert", axis, at)[0], "returns")
            self.raises("TooManyLines", {}, sheet, "insert", axis, 0)
            self.out_of_range("index", sheet, "insert", axis, most + 1)
            sheet.delete(axis, most - 1)
            self.assertEqual(outcome(sheet, "insert", axis, most - 1)[0], "returns")

    def test_c2_fewer_than_60_edits(self):
        sheet = full_sheet(many=59)
        self.assertEqual(sheet.write((0, 0), "a"), (1, 60))
        self.assertEqual(sheet.version(), (60, 0, 0, 0))

    def test_c2_too_many_edits_comes_ahead_of_any_other_error(self):
        sheet = full_sheet()
        for deed in (("insert", "row", 0), ("insert", "row", 99), ("delete", "row", 0), ("delete", "row", 5),
                     ("write", (0, 0), "1"), ("write", (9, 9), "=*"), ("write_block", (0, 0), [["=*"]]),
                     ("copy", (0, 0, 0, 0), (0, 0)), ("copy", (0, 0, 9, 9), (0, 0)), ("name", "ab", []),
                     ("name", "sum", [(9, 9, 9, 9)]), ("undo",), ("redo",)):
            self.raises("TooManyEdits", {}, sheet, *deed)
        self.raises("TooManyEdits", {}, sheet.copy_for(2), "undo")

    def test_c2_more_than_60_edits_may_be_taken(self):
        one, two = full_sheet(1, 40), full_sheet(2, 40)
        self.assertEqual(one.take(two.update(EMPTY)), 40)
        self.assertEqual(one.version(), (40, 40, 0, 0))
        self.raises("TooManyEdits", {}, one, "undo")
        self.assertEqual(one.writers((0, 0)), [(1, 40), (2, 40)])

    def test_c2_four_blocks_of_a_name(self):
        sheet = Sheet(1, 2, 2)
        self.assertEqual(sheet.name("ab", [(0, 0, 1, 1)] * 4), (1, 1))
        self.assertEqual(sheet.grid().areas("ab"), [("block", 0, 0, 1, 1)] * 4)
        self.out_of_range("blocks", sheet, "name", "ab", [(0, 0, 1, 1)] * 5)

    def test_c2_rows_and_columns_of_the_beginning(self):
        sheet = Sheet(4, 8, 6)
        sheet.write((7, 5), "=A1 + F8")
        self.assertEqual(sheet.texts((7, 5)), ["=A1 + F8"])


def take_by_words(sheet, data):
    """The words of s4."""
    try:
        begin, edits = read_update(data)
    except InvalidBytes as error:
        return ("InvalidBytes", {"at": error.at})
    if begin != sheet.begin():
        return ("OtherTable", {})
    held = {edit[0]: edit for edit in sheet.edits()}
    for edit in tables.sorted_edits(edits):
        if edit[0] in held and held[edit[0]] != edit:
            return ("ClashingEdits", {"id": edit[0]})
    new = [edit for edit in edits if edit[0] not in held]
    fault = deeds.fault_of(begin, sheet.edits() + new)
    return ("returns", len(new)) if fault is None else (fault[0], {"id": fault[1]})


class Taking(Calls):
    def take(self, sheet, data):
        """Takes an update, and checks what is returned, or raised without a change."""
        want = take_by_words(sheet, data)
        before = everything(sheet)
        held = sheet.edits()
        kept = list(data)
        self.assertEqual(outcome(sheet, "take", data), want)
        self.assertEqual(data, kept)
        if want[0] == "returns":
            ids = {edit[0] for edit in held}
            more = [edit for edit in read_update(data)[1] if edit[0] not in ids]
            self.assertEqual(sheet.edits(), tables.sorted_edits(held + more))
        else:
            self.assertEqual(everything(sheet), before)
        return want[0]

    def test_s4_new_edits(self):
        one = Sheet(1, 2, 2)
        two = one.copy_for(2)
        one.write((0, 0), "1")
        one.write((0, 1), "2")
        self.assertEqual(two.take(one.update(EMPTY)), 2)
        self.assertEqual(two.take(one.update(EMPTY)), 0)
        one.undo()
        self.assertEqual(two.take(one.update((1, 0, 0, 0))), 1)
        self.assertEqual(everything(one), everything(two))
        self.assertEqual(two.take(two.update(EMPTY)), 0)

    def test_s4_update_leaves_out_what_the_version_counts(self):
        one = Sheet(1, 2, 2)
        one.insert("row", 0)
        two = one.copy_for(2)
        two.insert("row", 0)
        one.insert("row", 0)
        two.take(one.update(two.version()))
        for version, ids in (
                (EMPTY, [(1, 1), (1, 2), (2, 1)]), ((1, 0, 0, 0), [(1, 2), (2, 1)]), ((0, 1, 0, 0), [(1, 1), (1, 2)]),
                ((2, 1, 0, 0), []), ((9, 0, 9, 9), [(2, 1)])):
            self.assertEqual(two.update(version), write_update((2, 2), [e for e in two.edits() if e[0] in ids]))

    def test_s4_invalid_bytes(self):
        sheet = Sheet(1, 2, 2)
        sheet.write((0, 0), "1")
        other = Sheet(2, 3, 2)
        for data, at in (([], 0), ([9], 0), ([2, 2], 2), ([2, 2, 0, 0], 3), ([3, 2, 1], 3), ([2, 2, 128, 0], 2)):
            self.raises("InvalidBytes", {"at": at}, sheet, "take", data)
        self.raises("InvalidBytes", {"at": 3}, other, "take", [2, 2, 0, 0])

    def test_s4_other_table(self):
        sheet = Sheet(1, 2, 2)
        for rows, columns in ((3, 2), (2, 3), (0, 0)):
            other = Sheet(2, rows, columns)
            self.raises("OtherTable", {}, sheet, "take", other.update(EMPTY))
            # Also if its edits could not be taken: undo of what is not there, and a version that is missing.
            wrong = write_update((rows, columns), [((2, 2), EMPTY, ("undo", 1))])
            self.raises("OtherTable", {}, sheet, "take", wrong)

    def test_s4_clashing_edits(self):
        one, other = Sheet(1, 2, 2), Sheet(1, 2, 2)
        for text in ("a", "b", "c"):
            one.write((0, 0), text)
            other.write((0, 0), "x" if text == "b" else text)
        self.raises("ClashingEdits", {"id": (1, 2)}, one, "take", other.update(EMPTY))
        self.assertEqual(one.take(other.update((2, 0, 0, 0))), 0)
        # They come ahead of what checking raises.
        edits = [((1, 3), (2, 0, 0, 0), ("undo", 1)), ((2, 2), EMPTY, ("undo", 7))]
        self.raises("ClashingEdits", {"id": (1, 3)}, one, "take", write_update((2, 2), edits))
        self.raises("MissingEdits", {"id": (2, 2)}, one, "take", write_update((2, 2), edits[1:]))

    def test_s4_an_edit_with_another_version_clashes(self):
        one = Sheet(1, 2, 2)
        one.write((0, 0), "a")
        two = one.copy_for(2)
        two.write((0, 0), "b")
        changed = [((2, 1), EMPTY, two.edits()[1][2])]
        self.raises("ClashingEdits", {"id": (2, 1)}, two, "take", write_update((2, 2), changed))
        self.assertEqual(one.take(write_update((2, 2), changed)), 1)

    def test_s4_missing_edits(self):
        one = Sheet(1, 2, 2)
        for text in ("a", "b", "c"):
            one.write((0, 0), text)
        two = Sheet(2, 2, 2)
        self.raises("MissingEdits", {"id": (1, 2)}, two, "take", one.update((1, 0, 0, 0)))
        self.raises("MissingEdits", {"id": (1, 3)}, two, "take", one.update((2, 0, 0, 0)))
        two.take(one.update(EMPTY))
        two.write((0, 0), "d")
        three = Sheet(3, 2, 2)
        self.raises("MissingEdits", {"id": (2, 1)}, three, "take", two.update((3, 0, 0, 0)))
        self.assertEqual(three.take(two.update(EMPTY)), 4)

    def test_s4_impossible_edits(self):
        one = Sheet(1, 2, 2)
        one.delete("row", 0)
        begin = one.begin()
        for action in (("delete", "row", (0, 1)), ("insert", "row", (0, 1), (0, 2)), ("undo", 1), ("write", ()),
                       ("name", "sum", ()), ("name", "ab", (((0, 1), (0, 1), (0, 1), (0, 1)),)),
                       ("write", (((0, 2), (0, 1), ("number", (2, 4))),)),
                       ("write", (((0, 2), (0, 1), ("text", "12")),)),
                       ("write", (((0, 2), (0, 1), ("formula", ("call", "sum", ()))),))):
            edits = [((2, 1), (1, 0, 0, 0), action)]
            self.raises("ImpossibleEdit", {"id": (2, 1)}, one, "take", write_update(begin, edits))

    def test_s4_each_update_that_a_copy_made_is_taken_once_nothing_is_missing(self):
        told = {}
        for seed in range(40):
            party = deeds.lived(random.Random(seed), 60)
            for sheet in party.sheets:
                for other in party.sheets:
                    for version in (EMPTY, other.version(), sheet.edits()[-1][1] if sheet.edits() else EMPTY):
                        name = self.take(other.copy_for(4), sheet.update(version))
                        told[name] = told.get(name, 0) + 1
                    self.assertEqual(self.take(other.copy_for(4), sheet.update(EMPTY)), "returns")
                    self.assertEqual(self.take(other.copy_for(4), sheet.update(other.version())), "returns")
        self.assertEqual(sorted(told), ["MissingEdits", "returns"])

    def test_s4_updates_that_lack_an_edit(self):
        told = {}
        for seed in range(25):
            party = deeds.lived(random.Random(seed), 40)
            sheet, other = party.sheets[:2]
            edits = sheet.edits()
            for at in range(len(edits)):
                name = self.take(other.copy_for(3), write_update(sheet.begin(), edits[:at] + edits[at + 1:]))
                told[name] = told.get(name, 0) + 1
        self.assertEqual(sorted(told), ["MissingEdits", "returns"])

    def test_s4_updates_with_a_changed_edit(self):
        told = {}
        for seed in range(60):
            chance = random.Random(seed)
            party = deeds.lived(chance, 50)
            sheet, other = party.sheets[:2]
            edits = sheet.edits()
            for _ in range(6 if edits else 0):
                at = chance.randrange(len(edits))
                edit_id, seen, action = edits[at]
                if chance.randrange(3) == 0:
                    entry = chance.randrange(4)
                    seen = seen[:entry] + (max(0, seen[entry] + chance.choice((-1, 1))),) + seen[entry + 1:]
                else:
                    action = chance.choice([edit[2] for edit in party.sheets[2].edits()] or [("undo", 1)])
                changed = edits[:at] + [(edit_id, seen, action)] + edits[at + 1:]
                name = self.take(other.copy_for(3), write_update(sheet.begin(), changed))
                told[name] = told.get(name, 0) + 1
        self.assertEqual(sorted(told), ["ClashingEdits", "ImpossibleEdit", "MissingEdits", "returns"])

    def test_s4_updates_with_changed_bytes(self):
        told = {}
        for seed in range(60):
            chance = random.Random(seed)
            party = deeds.lived(chance, 30)
            sheet, other = party.sheets[:2]
            data = sheet.update(EMPTY)
            for _ in range(20):
                changed = list(data)
                at = chance.randrange(len(changed))
                way = chance.randrange(4)
                if way == 0:
                    changed[at] = chance.choice((0, 1, 2, 3, 4, 5, 127, 128, 255))
                elif way == 1:
                    changed[at] = max(0, changed[at] - 1)
                elif way == 2:
                    changed[at] = min(127, changed[at] + 1)
                else:
                    del changed[at]
                name = self.take(other.copy_for(3), changed)
                told[name] = told.get(name, 0) + 1
        self.assertEqual(sorted(told), ["ClashingEdits", "ImpossibleEdit", "InvalidBytes", "MissingEdits",
                                        "OtherTable", "returns"])


class Agreeing(unittest.TestCase):
    def test_s5_three_copies(self):
        clashes = 0
        for seed in range(60):
            party = deeds.lived(random.Random(seed), 90)
            party.meet()
            first = everything(party.sheets[0])
            for sheet in party.sheets[1:]:
                self.assertEqual(everything(sheet), first)
            self.assertEqual(everything(party.sheets[0].copy_for(4)), first)
            clashes += any(len(texts) > 1 for texts in first[5].values())
        self.assertGreater(clashes, 10)

    def test_s5_in_whatever_order_edits_came(self):
        for seed in range(40):
            chance = random.Random(seed)
            party = deeds.lived(chance, 60)
            party.meet()
            sheet = party.sheets[0]
            edits = sheet.edits()
            for _ in range(3):
                other = Sheet(chance.choice(tables.PERSONS), *sheet.begin())
                rest = tables.random_order(chance, edits)
                while rest:
                    many = chance.randint(1, len(rest))
                    self.assertEqual(other.take(write_update(sheet.begin(), rest[:many])), many)
                    rest = rest[many:]
                self.assertEqual(everything(other), everything(sheet))

    def test_s5_by_what_the_parts_tell(self):
        for seed in range(30):
            sheet = deeds.lived(random.Random(seed), 60).sheets[1]
            edits = sheet.edits()
            self.assertEqual(edits, tables.sorted_edits(edits))
            self.assertEqual(sheet.version(), version_of(edits))
            self.assertTrue(same(sheet.grid(), grids_of(sheet, edits)))
            self.assertEqual(sheet.all_values(), values_of(sheet.grid()))
            self.assertEqual(sheet.all_values(), second.values(sheet.grid()))
            self.assertEqual(read_update(sheet.update(EMPTY)), (sheet.begin(), edits))
            for cell in sheet.grid().cells():
                self.assertEqual(len(sheet.writers(cell)), len(sheet.grid().shown(cell)))


class Undoing(unittest.TestCase):
    def test_u2_behind_an_undo_and_behind_a_redo(self):
        for seed in range(60):
            chance = random.Random(seed)
            party = deeds.lived(chance, 50)
            for sheet in party.sheets:
                before = content_of(sheet.grid())
                for _ in range(10):
                    if outcome(sheet, *deeds.deed_for(chance, sheet, False))[0] == "returns":
                        break
                else:
                    continue
                behind = content_of(sheet.grid())
                for _ in range(chance.randint(1, 2)):
                    sheet.undo()
                    self.assertEqual(content_of(sheet.grid()), before)
                    sheet.redo()
                    self.assertEqual(content_of(sheet.grid()), behind)

    def test_u2_all_the_way_back_and_forth(self):
        for seed in range(40):
            chance = random.Random(seed)
            sheet = Sheet(2, chance.randint(1, 4), chance.randint(1, 4))
            noted = [content_of(sheet.grid())]
            while len(noted) < 14:
                if outcome(sheet, *deeds.deed_for(chance, sheet, False))[0] == "returns":
                    noted.append(content_of(sheet.grid()))
            for want in noted[-2::-1]:
                sheet.undo()
                self.assertEqual(content_of(sheet.grid()), want)
            self.assertEqual(outcome(sheet, "undo"), ("NothingToUndo", {}))
            for want in noted[1:]:
                sheet.redo()
                self.assertEqual(content_of(sheet.grid()), want)
            self.assertEqual(outcome(sheet, "redo"), ("NothingToRedo", {}))

    def test_u1_nothing_of_another_person_is_changed(self):
        undone = 0
        for seed in range(60):
            party = deeds.lived(random.Random(seed), 60)
            party.meet()
            for sheet in party.sheets:
                before = in_force(sheet.edits())
                told = outcome(sheet, "undo")
                if told[0] != "returns":
                    continue
                undone += 1
                target = (sheet.person(), sheet.edits()[-1][2][1])
                self.assertEqual(in_force(sheet.edits()), sorted(set(before) - {target} | {told[1]}))
                others = tuple({1, 2, 3, 4} - {sheet.person()})
                self.assertEqual(set(in_force_without(sheet.edits(), (sheet.person(),))),
                                 {one for one in before if one[0] in others})
                # What is shown is what would be shown if this one edit were not in force.
                view = View(sheet.begin(), sheet.edits(), [one for one in before if one != target])
                self.assertTrue(same(sheet.grid(), grid_of(view)))
        self.assertGreater(undone, 50)

    def test_u1_undo_of_a_line_that_others_wrote_into(self):
        one = Sheet(1, 1, 1)
        one.insert("row", 1)
        two = one.copy_for(2)
        two.write((1, 0), "7")
        two.write((0, 0), "=A2")
        one.take(two.update(EMPTY))
        one.undo()
        self.assertEqual((one.texts((0, 0)), one.all_values()), (["=gone"], {(0, 0): ("fault", "gone")}))
        one.redo()
        self.assertEqual((one.texts((1, 0)), one.texts((0, 0))), (["7"], ["=A2"]))

    def test_u1_undo_of_a_write_shows_what_it_covered(self):
        one = Sheet(1, 1, 1)
        one.write((0, 0), "1")
        two = one.copy_for(2)
        two.write((0, 0), "2")
        one.take(two.update(EMPTY))
        one.write((0, 0), "3")
        two.take(one.update(EMPTY))
        two.undo()
        self.assertEqual((two.texts((0, 0)), two.writers((0, 0))), (["3"], [(1, 2)]))
        one.undo()
        self.assertEqual(one.texts((0, 0)), ["2"])
        one.take(two.update(EMPTY))
        self.assertEqual(one.texts((0, 0)), ["1"])
        one.undo()
        self.assertEqual((one.texts((0, 0)), one.writers((0, 0))), ([""], []))


class Kinds(unittest.TestCase):
    def test_all_errors_are_of_the_program(self):
        for deed in (("insert", "row", 9), ("undo",), ("redo",), ("take", []), ("copy_for", 9), ("texts", (9, 9))):
            with self.assertRaises(TableError):
                getattr(Sheet(1, 2, 2), deed[0])(*deed[1:])


if __name__ == "__main__":
    unittest.main()
