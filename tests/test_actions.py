"""The actions of calls, and the errors of calls: s2, u2."""

import random
import unittest

import tables
from tables import Table
from tablemates.actions import (
    copy_action, delete_action, insert_action, name_action, redo_action, undo_action, write_action)
from tablemates.errors import (
    FormulaFault, NothingToRedo, NothingToUndo, OutOfRange, TooManyLines)
from tablemates.view import View

ONE = ("number", (1, 1))
BLANK = ("blank",)


def view_of(rows, columns, edits=()):
    return View((rows, columns), list(edits), [edit[0] for edit in edits])


class Actions(unittest.TestCase):
    def raises(self, error, fields, function, *arguments):
        with self.assertRaises(error) as caught:
            function(*arguments)
        self.assertEqual(vars(caught.exception), fields)

    def out_of_range(self, word, function, *arguments):
        self.raises(OutOfRange, {"word": word}, function, *arguments)


class Lines(Actions):
    def test_s2_insert(self):
        view = view_of(2, 1)
        self.assertEqual(insert_action(view, "row", 0), ("insert", "row", None, (0, 1)))
        self.assertEqual(insert_action(view, "row", 1), ("insert", "row", (0, 1), (0, 2)))
        self.assertEqual(insert_action(view, "row", 2), ("insert", "row", (0, 2), None))
        self.assertEqual(insert_action(view, "column", 1), ("insert", "column", (0, 1), None))
        self.assertEqual(insert_action(view_of(0, 0), "row", 0), ("insert", "row", None, None))

    def test_s2_insert_between_live_lines(self):
        table = Table(3, 0)
        table.delete(1, "row", 1)
        self.assertEqual(insert_action(table.view(), "row", 1), ("insert", "row", (0, 1), (0, 3)))
        self.assertEqual(insert_action(table.view(), "row", 2), ("insert", "row", (0, 3), None))
        self.out_of_range("index", insert_action, table.view(), "row", 3)

    def test_s2_insert_out_of_range(self):
        for index in (-1, 3, 4, 100):
            self.out_of_range("index", insert_action, view_of(2, 6), "row", index)
            self.out_of_range("index", insert_action, view_of(6, 2), "column", index)

    def test_s2_too_many_lines(self):
        for axis, most in (("row", 12), ("column", 8)):
            table = Table(6, 6)
            for at in range(most - 6):
                insert_action(table.view(), axis, at)
                table.insert(1, axis, at)
            for index in (0, 3, most):
                self.raises(TooManyLines, {}, insert_action, table.view(), axis, index)
            # The argument is checked first.
            self.out_of_range("index", insert_action, table.view(), axis, most + 1)
            self.out_of_range("index", insert_action, table.view(), axis, -1)
            other = "column" if axis == "row" else "row"
            self.assertEqual(insert_action(table.view(), other, 0), ("insert", other, None, (0, 1)))
            table.delete(1, axis, 5)
            self.assertEqual(insert_action(table.view(), axis, 0)[:3], ("insert", axis, None))

    def test_s2_more_lines_than_may_be_inserted(self):
        table = Table(8, 1)
        for person in (1, 2):
            for at in range(4):
                table.insert(person, "row", at)
        table.meet_all()
        self.assertEqual(len(table.view().live("row")), 16)
        self.raises(TooManyLines, {}, insert_action, table.view(), "row", 16)

    def test_s2_delete(self):
        table = Table(2, 3)
        self.assertEqual(delete_action(table.view(), "row", 1), ("delete", "row", (0, 2)))
        self.assertEqual(delete_action(table.view(), "column", 2), ("delete", "column", (0, 3)))
        table.insert(4, "row", 1)
        self.assertEqual(delete_action(table.view(), "row", 1), ("delete", "row", (4, 1)))
        self.assertEqual(delete_action(table.view(), "row", 2), ("delete", "row", (0, 2)))

    def test_s2_delete_out_of_range(self):
        for index in (-1, 2, 3, 50):
            self.out_of_range("index", delete_action, view_of(2, 6), "row", index)
            self.out_of_range("index", delete_action, view_of(6, 2), "column", index)
        self.out_of_range("index", delete_action, view_of(0, 0), "row", 0)


class Writes(Actions):
    def test_s2_one_text(self):
        view = view_of(2, 2)
        for text, content in (("", BLANK), ("1", ONE), ("a", ("text", "a")), ("=A2", ("formula", ("cell", (0, 2), (0, 1))))):
            self.assertEqual(write_action(view, (1, 0), [[text]]), ("write", (((0, 2), (0, 1), content),)))

    def test_s2_rows_of_texts(self):
        view = view_of(3, 2)
        found = write_action(view, (1, 0), [["1", "a"], ["", "=sum(B2:B3, ab)"]])
        area = ("block", (0, 2), (0, 2), (0, 3), (0, 2))
        self.assertEqual(found, ("write", (
            ((0, 2), (0, 1), ONE), ((0, 2), (0, 2), ("text", "a")), ((0, 3), (0, 1), BLANK),
            ((0, 3), (0, 2), ("formula", ("call", "sum", (area, ("name", "ab"))))))))

    def test_s2_a_block_that_is_not_in_the_grid(self):
        view = view_of(2, 3)
        for cell in ((-1, 0), (0, -1), (2, 0), (0, 3), (5, 5)):
            self.out_of_range("cell", write_action, view, cell, [["1"]])
        self.out_of_range("cell", write_action, view, (1, 0), [["1"], ["1"]])
        self.out_of_range("cell", write_action, view, (0, 2), [["1", "1"]])
        self.out_of_range("cell", write_action, view_of(0, 3), (0, 0), [["1"]])
        write_action(view, (0, 0), [["1"] * 3] * 2)

    def test_s2_the_first_formula_fault(self):
        view = view_of(2, 2)
        self.raises(FormulaFault, {"place": 1, "word": "end"}, write_action, view, (0, 0), [["1", "=-"], ["=*", "=Z9"]])
        self.raises(FormulaFault, {"place": 0, "word": "unexpected"}, write_action, view, (0, 0), [["1"], ["=*"]])
        self.raises(FormulaFault, {"place": 0, "word": "range"}, write_action, view, (0, 0), [["=A3"]])
        self.raises(FormulaFault, {"place": 30, "word": "long"}, write_action, view, (0, 0), [["=" + "1+" * 15 + "1"]])

    def test_s2_the_cell_comes_ahead_of_the_texts(self):
        self.out_of_range("cell", write_action, view_of(2, 2), (1, 1), [["=*", "1"]])

    def test_s2_read_for_the_live_lines(self):
        table = Table(2, 2)
        table.delete(1, "row", 0)
        self.raises(FormulaFault, {"place": 0, "word": "range"}, write_action, table.view(), (0, 0), [["=A2"]])
        self.assertEqual(write_action(table.view(), (0, 0), [["=A1"]])[1][0],
                         ((0, 2), (0, 1), ("formula", ("cell", (0, 2), (0, 1)))))

    def test_s2_texts_stay_as_they_are(self):
        texts = [["1", "2"], ["3", "=A1"]]
        write_action(view_of(2, 2), (0, 0), texts)
        self.assertEqual(texts, [["1", "2"], ["3", "=A1"]])


class Copies(Actions):
    def table(self):
        table = Table(3, 3)
        formula = ("formula", ("op", "+", ("cell", 0, 0), ("call", "sum", (("block", 0, 0, 1, 1), ("name", "ab")))))
        table.write(1, (0, 0), [("number", (5, 1)), formula], [("text", "a"), BLANK])
        return table

    def test_s2_contents_are_moved(self):
        found = copy_action(self.table().view(), (0, 0, 1, 1), (1, 1))
        area = ("block", (0, 2), (0, 2), (0, 3), (0, 3))
        formula = ("formula", ("op", "+", ("cell", (0, 2), (0, 2)), ("call", "sum", (area, ("name", "ab")))))
        self.assertEqual(found, ("write", (
            ((0, 2), (0, 2), ("number", (5, 1))), ((0, 2), (0, 3), formula),
            ((0, 3), (0, 2), ("text", "a")), ((0, 3), (0, 3), BLANK))))

    def test_s2_what_would_be_outside_is_gone(self):
        found = copy_action(self.table().view(), (0, 1, 0, 1), (2, 1))
        tree = ("op", "+", ("cell", (0, 3), (0, 1)), ("call", "sum", (("gone",), ("name", "ab"))))
        self.assertEqual(found, ("write", (((0, 3), (0, 2), ("formula", tree)),)))
        found = copy_action(self.table().view(), (0, 1, 0, 1), (0, 0))
        tree = ("op", "+", ("gone",), ("call", "sum", (("gone",), ("name", "ab"))))
        self.assertEqual(found, ("write", (((0, 1), (0, 1), ("formula", tree)),)))

    def test_s2_onto_itself_and_overlapping(self):
        table = self.table()
        found = copy_action(table.view(), (0, 0, 1, 1), (0, 0))
        self.assertEqual(found, table.edits()[0][2])
        found = copy_action(table.view(), (0, 0, 1, 0), (1, 0))
        self.assertEqual(found, ("write", (
            ((0, 2), (0, 1), ("number", (5, 1))), ((0, 3), (0, 1), ("text", "a")))))

    def test_s2_of_a_formula_that_was_kept_elsewhere(self):
        table = self.table()
        table.meet_all()
        table.insert(2, "row", 1)
        found = copy_action(table.view(), (0, 1, 0, 1), (0, 1))
        area = ("block", (0, 1), (0, 1), (0, 2), (0, 2))
        tree = ("op", "+", ("cell", (0, 1), (0, 1)), ("call", "sum", (area, ("name", "ab"))))
        self.assertEqual(found, ("write", (((0, 1), (0, 2), ("formula", tree)),)))

    def test_s2_block_not_in_the_grid(self):
        view = self.table().view()
        for block in ((0, 0, 3, 0), (0, 0, 0, 3), (-1, 0, 0, 0), (0, -1, 0, 0), (3, 3, 3, 3)):
            self.out_of_range("block", copy_action, view, block, (0, 0))

    def test_s2_block_with_a_clash(self):
        table = self.table()
        table.write(2, (1, 1), ONE)
        self.out_of_range("block", copy_action, table.view(), (1, 1, 1, 1), (0, 0))
        self.out_of_range("block", copy_action, table.view(), (0, 0, 2, 2), (0, 0))
        copy_action(table.view(), (0, 0, 0, 1), (2, 1))
        # A cell may be copied onto a clash, and one that is blank behind one is none.
        self.assertEqual(copy_action(table.view(), (0, 0, 0, 0), (1, 1)),
                         ("write", (((0, 2), (0, 2), ("number", (5, 1))),)))

    def test_s2_cell_where_it_would_not_lie_in_the_grid(self):
        view = self.table().view()
        for cell in ((2, 0), (0, 2), (-1, 0), (0, -1), (3, 3)):
            self.out_of_range("cell", copy_action, view, (0, 0, 1, 1), cell)

    def test_s2_the_block_comes_ahead_of_the_cell(self):
        self.out_of_range("block", copy_action, self.table().view(), (0, 0, 3, 0), (9, 9))

    def test_s2_a_copy_that_has_become_too_long(self):
        table = self.split_table(6)
        self.raises(FormulaFault, {"place": 30, "word": "long"}, copy_action, table.view(), (0, 1, 0, 1), (0, 1))
        table = self.split_table(3)
        self.assertEqual(copy_action(table.view(), (0, 1, 0, 1), (0, 1))[0], "write")

    def split_table(self, many):
        """A formula with so many blocks of four rows, of which a row that is no member splits off the last one."""
        table = Table(4, 3)
        # The new row stands behind the third one with nothing behind it, and so is between no two members.
        table.delete(2, "row", 3)
        table.insert(2, "row", 3)
        table.write(1, (0, 1), ("formula", ("call", "sum", (("block", 0, 0, 3, 0),) * many)))
        table.meet(2, 1)
        table.undo(2, 1)
        view = table.view()
        self.assertEqual(view.live("row"), [(0, 1), (0, 2), (0, 3), (2, 2), (0, 4)])
        return table


class Names(Actions):
    def test_s2_name(self):
        view = view_of(3, 3)
        self.assertEqual(name_action(view, "ab", []), ("name", "ab", ()))
        self.assertEqual(name_action(view, "ab", [(0, 1, 2, 2)]), ("name", "ab", (((0, 1), (0, 2), (0, 3), (0, 3)),)))
        found = name_action(view, "abcdefgh", [(0, 0, 0, 0)] * 4)
        self.assertEqual(found, ("name", "abcdefgh", (((0, 1), (0, 1), (0, 1), (0, 1)),) * 4))

    def test_s2_by_live_lines(self):
        table = Table(3, 1)
        table.delete(1, "row", 0)
        table.insert(1, "row", 2)
        self.assertEqual(name_action(table.view(), "ab", [(0, 0, 2, 0)]),
                         ("name", "ab", (((0, 2), (0, 1), (1, 2), (0, 1)),)))

    def test_s2_no_name_word(self):
        for word in ("", "a", "abcdefghi", "sum", "count", "min", "max", "gone", "Ab", "a1", "a b"):
            self.out_of_range("word", name_action, view_of(2, 2), word, [])
            self.out_of_range("word", name_action, view_of(2, 2), word, [(0, 0, 5, 5)])

    def test_s2_blocks(self):
        view = view_of(2, 2)
        self.out_of_range("blocks", name_action, view, "ab", [(0, 0, 0, 0)] * 5)
        for block in ((0, 0, 2, 0), (0, 0, 0, 2), (-1, 0, 0, 0), (0, -1, 0, 0), (7, 7, 7, 7)):
            self.out_of_range("blocks", name_action, view, "ab", [block])
            self.out_of_range("blocks", name_action, view, "ab", [(0, 0, 1, 1), block])


class Undos(Actions):
    def test_s2_undo_and_redo(self):
        table = Table(2, 2)
        table.insert(1, "row", 0)
        table.insert(2, "row", 0)
        table.insert(1, "row", 0)
        self.assertEqual(undo_action(table.edits(), 1), ("undo", 2))
        self.assertEqual(undo_action(table.edits(), 2), ("undo", 1))
        table.undo(1, 2)
        self.assertEqual(undo_action(table.edits(), 1), ("undo", 1))
        self.assertEqual(redo_action(table.edits(), 1), ("undo", 3))

    def test_s2_nothing_to_undo_or_redo(self):
        table = Table(2, 2)
        for person in (1, 2, 3, 4):
            self.raises(NothingToUndo, {}, undo_action, table.edits(), person)
            self.raises(NothingToRedo, {}, redo_action, table.edits(), person)
        table.insert(1, "row", 0)
        self.raises(NothingToUndo, {}, undo_action, table.edits(), 2)
        self.raises(NothingToRedo, {}, redo_action, table.edits(), 1)
        table.undo(1, 1)
        self.raises(NothingToUndo, {}, undo_action, table.edits(), 1)
        table.undo(1, 2)
        self.raises(NothingToRedo, {}, redo_action, table.edits(), 1)

    def test_s2_a_new_edit_ends_redo(self):
        table = Table(2, 2)
        table.insert(1, "row", 0)
        table.undo(1, 1)
        table.insert(1, "row", 0)
        self.raises(NothingToRedo, {}, redo_action, table.edits(), 1)
        self.assertEqual(undo_action(table.edits(), 1), ("undo", 3))

    def test_u2_by_two_stacks(self):
        for seed in range(60):
            edits = tables.random_table(random.Random(seed), 30).edits()
            for person in tables.PERSONS:
                undos, redos = tables.stacks(edits, person)
                if undos:
                    self.assertEqual(undo_action(edits, person), ("undo", undos[-1]))
                else:
                    self.raises(NothingToUndo, {}, undo_action, edits, person)
                if redos:
                    self.assertEqual(redo_action(edits, person), ("undo", redos[-1]))
                else:
                    self.raises(NothingToRedo, {}, redo_action, edits, person)


if __name__ == "__main__":
    unittest.main()
