"""The ordinary spreadsheet: s6."""

import copy
import random
import unittest

import deeds
from deeds import content_of, outcome
from tablemates.contents import write_content
from tablemates.grids import Grid, with_line, without_line
from tablemates.plain import Plain
from tablemates.sheet import Sheet


def texts_of(grid):
    """The strings of the cells that are not blank, by their addresses."""
    letters = "ABCDEFGH"
    return {letters[column] + str(row + 1): [write_content(one) for one in grid.shown((row, column))]
            for row, column in grid.cells()}


def made(rows, columns, *plain_deeds):
    plain = Plain(rows, columns)
    for deed in plain_deeds:
        outcome(plain, *deed)
    return plain


class Calls(unittest.TestCase):
    def shows(self, plain, **texts):
        self.assertEqual(texts_of(plain.grid()), {address: [text] for address, text in texts.items()})

    def raises(self, name, fields, plain, *deed):
        before = content_of(plain.grid())
        self.assertEqual(outcome(plain, *deed), (name, fields))
        self.assertEqual(content_of(plain.grid()), before)

    def test_a_new_one_is_blank(self):
        self.assertEqual(content_of(Plain(3, 2).grid()), (3, 2, {}, {}))
        self.assertEqual(content_of(Plain(0, 0).grid()), (0, 0, {}, {}))

    def test_calls_return_none(self):
        plain = Plain(2, 2)
        for deed in (("insert", "row", 0), ("delete", "column", 0), ("write", (0, 0), "1"),
                     ("write_block", (0, 0), [["1"], ["2"]]), ("copy", (0, 0, 0, 0), (1, 0)),
                     ("name", "ab", [(0, 0, 0, 0)]), ("name", "ab", [])):
            self.assertEqual(outcome(plain, *deed), ("returns", None))

    def test_writes(self):
        plain = made(2, 2, ("write", (0, 0), "1"), ("write_block", (0, 0), [["2", "=A1*2"], ["", "a"]]))
        self.shows(plain, A1="2", B1="=A1 * 2", B2="a")
        plain.write((1, 1), "")
        self.shows(plain, A1="2", B1="=A1 * 2")

    def test_copy(self):
        plain = made(3, 3, ("write_block", (0, 0), [["1", "=A1 + sum(A1:B2)"], ["", "x"]]), ("write", (2, 2), "y"))
        plain.copy((0, 0, 1, 1), (1, 1))
        self.shows(plain, A1="1", B1="=A1 + sum(A1:B2)", B2="1", C2="=B2 + sum(B2:C3)", C3="x")
        plain.copy((0, 1, 0, 1), (2, 0))
        self.assertEqual(texts_of(plain.grid())["A3"], ["=gone + sum(gone)"])

    def test_copy_of_a_part_onto_itself(self):
        plain = made(3, 1, ("write_block", (0, 0), [["1"], ["2"], ["3"]]))
        plain.copy((0, 0, 1, 0), (1, 0))
        self.shows(plain, A1="1", A2="1", A3="2")

    def test_names(self):
        plain = made(2, 2, ("name", "ab", [(0, 0, 1, 1), (0, 0, 0, 0)]))
        self.assertEqual(plain.grid().areas("ab"), [("block", 0, 0, 1, 1), ("block", 0, 0, 0, 0)])
        plain.name("ab", [(1, 1, 1, 1)])
        self.assertEqual(plain.grid().areas("ab"), [("block", 1, 1, 1, 1)])
        plain.name("ab", [])
        plain.name("total", [])
        self.assertEqual(plain.grid().words(), [])

    def test_s6_insert_moves_from_its_place_on(self):
        cells = [["1", "=A1", "=B2"], ["2", "=A2 + A1", "=sum(A1:B2)"]]
        for index, want in (
                (0, dict(A2="1", B2="=A2", C2="=B3", A3="2", B3="=A3 + A2", C3="=sum(A2:B3)")),
                (1, dict(A1="1", B1="=A1", C1="=B3", A3="2", B3="=A3 + A1", C3="=sum(A1:B3)")),
                (2, dict(A1="1", B1="=A1", C1="=B2", A2="2", B2="=A2 + A1", C2="=sum(A1:B2)"))):
            plain = made(2, 3, ("write_block", (0, 0), cells))
            plain.insert("row", index)
            self.shows(plain, **want)
            self.assertEqual((plain.grid().rows, plain.grid().columns), (3, 3))

    def test_s6_insert_of_a_column(self):
        plain = made(2, 2, ("write_block", (0, 0), [["1", "=A1 + B2"], ["=sum(A1:B1)", "=sum(B1)"]]),
                     ("name", "ab", [(0, 0, 1, 1), (0, 1, 0, 1)]))
        plain.insert("column", 1)
        self.shows(plain, A1="1", C1="=A1 + C2", A2="=sum(A1:C1)", C2="=sum(C1)")
        self.assertEqual(plain.grid().areas("ab"), [("block", 0, 0, 1, 2), ("block", 0, 2, 0, 2)])

    def test_s6_a_block_is_widened_behind_its_first_and_not_behind_its_last_line(self):
        for index, want in ((0, (3, 5)), (1, (3, 5)), (2, (3, 5)), (3, (2, 5)), (4, (2, 5)), (5, (2, 4)), (6, (2, 4))):
            plain = made(6, 1, ("name", "ab", [(2, 0, 4, 0)]), ("write", (5, 0), "=sum(A3:A5)"))
            plain.insert("row", index)
            self.assertEqual(plain.grid().areas("ab"), [("block", want[0], 0, want[1], 0)])
            shown = [text for text, in texts_of(plain.grid()).values()]
            self.assertEqual(shown, ["=sum(A" + str(want[0] + 1) + ":A" + str(want[1] + 1) + ")"])

    def test_s6_delete_narrows(self):
        for index, want in ((0, (1, 3)), (1, (1, 3)), (2, (2, 3)), (3, (2, 3)), (4, (2, 3)), (5, (2, 4))):
            plain = made(7, 1, ("name", "ab", [(2, 0, 4, 0)]), ("write", (6, 0), "=sum(A3:A5)"))
            plain.delete("row", index)
            self.assertEqual(plain.grid().areas("ab"), [("block", want[0], 0, want[1], 0)])
            self.assertEqual(texts_of(plain.grid()), {
                "A6": ["=sum(A" + str(want[0] + 1) + ":A" + str(want[1] + 1) + ")"]})

    def test_s6_delete(self):
        plain = made(3, 2, ("write_block", (0, 0), [["1", "=A2 + A1"], ["2", "=sum(A1, A2, A3)"], ["3", "=A3"]]))
        plain.delete("row", 0)
        self.shows(plain, A1="2", B1="=sum(gone, A1, A2)", A2="3", B2="=A2")
        plain.delete("column", 0)
        self.shows(plain, A1="=sum(gone, gone, gone)", A2="=gone")
        plain.insert("column", 0)
        self.shows(plain, B1="=sum(gone, gone, gone)", B2="=gone")

    def test_s6_a_block_that_loses_its_last_line(self):
        plain = made(3, 2, ("name", "ab", [(0, 0, 0, 1), (1, 0, 2, 0)]), ("name", "total", [(0, 0, 0, 0)]),
                     ("write", (2, 1), "=sum(A1:B1)"))
        plain.delete("row", 0)
        self.shows(plain, B2="=sum(gone)")
        self.assertEqual(plain.grid().areas("ab"), [("block", 0, 0, 1, 0)])
        self.assertEqual(plain.grid().areas("total"), [("gone",)])
        plain.delete("column", 0)
        self.assertEqual(plain.grid().areas("ab"), [("gone",)])
        self.assertEqual(plain.grid().words(), ["ab", "total"])
        plain.delete("row", 0)
        plain.insert("row", 0)
        self.assertEqual(plain.grid().areas("ab"), [("gone",)])

    def test_s6_the_errors_of_calls(self):
        plain = made(2, 2, ("write", (0, 0), "1"), ("name", "ab", [(0, 0, 1, 1)]))
        for index in (-1, 3, 99):
            self.raises("OutOfRange", {"word": "index"}, plain, "insert", "row", index)
            self.raises("OutOfRange", {"word": "index"}, plain, "insert", "column", index)
        for index in (-1, 2, 99):
            self.raises("OutOfRange", {"word": "index"}, plain, "delete", "row", index)
            self.raises("OutOfRange", {"word": "index"}, plain, "delete", "column", index)
        self.raises("OutOfRange", {"word": "cell"}, plain, "write", (2, 0), "=*")
        self.raises("FormulaFault", {"place": 0, "word": "range"}, plain, "write", (1, 0), "=A3")
        self.raises("OutOfRange", {"word": "cell"}, plain, "write_block", (1, 1), [["1", "=*"]])
        self.raises("FormulaFault", {"place": 1, "word": "end"}, plain, "write_block", (0, 0), [["3", "=-"], ["=*", ""]])
        self.raises("OutOfRange", {"word": "block"}, plain, "copy", (0, 0, 2, 0), (9, 9))
        self.raises("OutOfRange", {"word": "cell"}, plain, "copy", (0, 0, 1, 0), (1, 0))
        self.raises("OutOfRange", {"word": "word"}, plain, "name", "min", [(9, 9, 9, 9)])
        self.raises("OutOfRange", {"word": "blocks"}, plain, "name", "ab", [(0, 0, 0, 0)] * 5)
        self.raises("OutOfRange", {"word": "blocks"}, plain, "name", "ab", [(0, 0, 2, 0)])

    def test_s6_too_many_lines(self):
        for axis, most in (("row", 12), ("column", 8)):
            plain = Plain(6, 6)
            for _ in range(most - 6):
                plain.insert(axis, 0)
            self.raises("TooManyLines", {}, plain, "insert", axis, most)
            self.raises("OutOfRange", {"word": "index"}, plain, "insert", axis, most + 1)
            plain.delete(axis, 0)
            plain.insert(axis, 0)

    def test_no_bound_of_edits(self):
        plain = Plain(1, 1)
        for at in range(100):
            plain.write((0, 0), str(at))
        self.shows(plain, A1="99")

    def test_what_is_returned_is_new_and_what_is_handed_in_stays(self):
        plain = Plain(2, 2)
        texts, blocks = [["1", "2"]], [(0, 0, 1, 1)]
        plain.write_block((0, 0), texts)
        plain.name("ab", blocks)
        self.assertEqual((texts, blocks), ([["1", "2"]], [(0, 0, 1, 1)]))
        texts[0].clear()
        blocks.clear()
        plain.grid().put((0, 0), [])
        plain.grid().unname("ab")
        self.shows(plain, A1="1", B1="2")
        self.assertEqual(plain.grid().areas("ab"), [("block", 0, 0, 1, 1)])


class Lines(unittest.TestCase):
    """Lines of grids that are put in and taken out with all contents as they are."""

    def grid(self):
        grid = Grid(2, 2)
        grid.put((0, 0), [("formula", ("cell", 1, 1))])
        grid.put((1, 1), [("text", "a"), ("blank",)])
        grid.name("ab", [("block", 0, 0, 1, 1)])
        grid.name("total", None)
        return grid

    def test_with_and_without_lines(self):
        names = {"ab": [("block", 0, 0, 1, 1)], "total": None}
        formula, clash = [("formula", ("cell", 1, 1))], [("text", "a"), ("blank",)]
        for function, axis, index, want in (
                (with_line, "row", 0, (3, 2, {(1, 0): formula, (2, 1): clash})),
                (with_line, "row", 1, (3, 2, {(0, 0): formula, (2, 1): clash})),
                (with_line, "row", 2, (3, 2, {(0, 0): formula, (1, 1): clash})),
                (with_line, "column", 1, (2, 3, {(0, 0): formula, (1, 2): clash})),
                (without_line, "row", 0, (1, 2, {(0, 1): clash})),
                (without_line, "row", 1, (1, 2, {(0, 0): formula})),
                (without_line, "column", 0, (2, 1, {(1, 0): clash}))):
            grid = self.grid()
            self.assertEqual(content_of(function(grid, axis, index)), want + (names,))
            self.assertEqual(content_of(grid), content_of(self.grid()))


class BesideCopies(unittest.TestCase):
    """The same calls on copies that hold all earlier edits, and on an ordinary spreadsheet."""

    def side_by_side(self, chance, steps, copies):
        plain = Plain(*copies[0].begin())
        told = {}
        for _ in range(steps):
            sheet = chance.choice(copies)
            for other in copies:
                sheet.take(other.update(sheet.version()))
            deed = deeds.deed_for(chance, sheet, False)
            kept = copy.deepcopy(deed)
            name, value = outcome(sheet, *deed)
            if name == "returns":
                self.assertEqual(outcome(plain, *deed), ("returns", None), deed)
            elif name != "TooManyEdits":
                self.assertEqual(outcome(plain, *deed), (name, value), deed)
            self.assertEqual(deed, kept)
            self.assertEqual(content_of(sheet.grid()), content_of(plain.grid()), deed)
            for cell in plain.grid().cells():
                self.assertEqual(sheet.texts(cell), [write_content(one) for one in plain.grid().shown(cell)])
            told[name] = told.get(name, 0) + 1
        return told

    def test_s6_the_same_grid_and_the_same_errors(self):
        told = {}
        for seed in range(60):
            chance = random.Random(seed)
            first = Sheet(1, chance.randint(0, 5), chance.randint(0, 5))
            copies = [first, first.copy_for(2), first.copy_for(4)]
            for name, many in self.side_by_side(chance, 55, copies).items():
                told[name] = told.get(name, 0) + many
        self.assertEqual(sorted(told), ["FormulaFault", "OutOfRange", "TooManyLines", "returns"])
        self.assertGreater(told["returns"], 1500)

    def test_s6_one_copy_of_full_size_until_no_edit_is_left(self):
        told = {}
        for seed in range(12):
            chance = random.Random(seed)
            for name, many in self.side_by_side(chance, 90, [Sheet(3, 8, 6)]).items():
                told[name] = told.get(name, 0) + many
        self.assertGreater(told["TooManyEdits"], 0)


if __name__ == "__main__":
    unittest.main()
