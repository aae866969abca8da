"""Digests: f3."""

import random
import unittest

import deeds
from deeds import outcome
from tablemates.digests import compare, digest
from tablemates.errors import ClashingEdits, InvalidBytes, OtherTable
from tablemates.records import sum_of
from tablemates.sheet import Sheet
from tablemates.wire import number_bytes

EMPTY = (0, 0, 0, 0)


def written(sheet, *texts):
    for text in texts:
        sheet.write((0, 0), text)
    return sheet


def bytes_of(*numbers):
    return [byte for number in numbers for byte in number_bytes(number)]


class Digests(unittest.TestCase):
    def raises(self, error, fields, sheet, data):
        before = list(data)
        with self.assertRaises(error) as caught:
            compare(sheet, data)
        self.assertEqual(vars(caught.exception), fields)
        self.assertEqual(data, before)

    def test_f3_the_integers(self):
        sheet = Sheet(1, 2, 3)
        self.assertEqual(digest(sheet), bytes_of(2, 3, 0, 0, 0, 0, sum_of([2, 3, 0])))
        written(sheet, "1", "a")
        self.assertEqual(digest(sheet), bytes_of(2, 3, 2, 0, 0, 0, sum_of(sheet.update(EMPTY))))
        other = written(Sheet(4, 2, 3), "b")
        sheet.take(other.update(EMPTY))
        self.assertEqual(digest(sheet), bytes_of(2, 3, 2, 0, 0, 1, sum_of(sheet.update(EMPTY))))
        self.assertEqual(digest(sheet.copy_for(2)), digest(sheet))

    def test_f3_compare(self):
        one, two = Sheet(1, 2, 2), Sheet(2, 2, 2)
        self.assertEqual(compare(one, digest(two)), (0, 0))
        written(one, "1", "2", "3")
        self.assertEqual((compare(one, digest(two)), compare(two, digest(one))), ((3, 0), (0, 3)))
        written(two, "1")
        self.assertEqual((compare(one, digest(two)), compare(two, digest(one))), ((3, 1), (1, 3)))
        two.take(one.update(EMPTY))
        self.assertEqual((compare(one, digest(two)), compare(two, digest(one))), ((0, 1), (1, 0)))
        one.take(two.update(EMPTY))
        self.assertEqual((compare(one, digest(two)), compare(one, digest(one))), ((0, 0), (0, 0)))

    def test_f3_compare_counts_the_edits_of_all_persons(self):
        sheets = [written(Sheet(person, 2, 2), *"abcd"[:person]) for person in (1, 2, 3, 4)]
        for one in sheets:
            for other in sheets:
                if one.person() != other.person():
                    self.assertEqual(compare(one, digest(other)), (one.person(), other.person()))
        for other in sheets[1:]:
            sheets[0].take(other.update(EMPTY))
        self.assertEqual(compare(sheets[0], digest(Sheet(1, 2, 2))), (10, 0))
        self.assertEqual(compare(Sheet(1, 2, 2), digest(sheets[0])), (0, 10))

    def test_f3_no_digest(self):
        sheet = written(Sheet(1, 2, 2), "1")
        data = digest(sheet)
        for wrong in ([], data[:-1], data[:3], data + [0], data + data, data[:-1] + [128], [130, 0] + data[1:],
                      data[:2] + [129, 0] + data[3:], [255] * 50):
            self.raises(InvalidBytes, {"at": 0}, sheet, wrong)

    def test_f3_other_table(self):
        sheet = written(Sheet(1, 2, 2), "1")
        for rows, columns in ((2, 3), (3, 2), (0, 0), (8, 6)):
            self.raises(OtherTable, {}, sheet, digest(Sheet(2, rows, columns)))
        self.raises(OtherTable, {}, sheet, digest(written(Sheet(1, 2, 1), "1")))
        # It comes behind the bytes and ahead of the versions.
        self.raises(InvalidBytes, {"at": 0}, sheet, digest(Sheet(2, 3, 2)) + [0])
        self.raises(OtherTable, {}, sheet, digest(written(Sheet(1, 3, 2), "2")))

    def test_f3_clashing_edits(self):
        one, other = written(Sheet(1, 2, 2), "1", "2"), written(Sheet(1, 2, 2), "1", "3")
        self.raises(ClashingEdits, {"id": (0, 0)}, one, digest(other))
        self.raises(ClashingEdits, {"id": (0, 0)}, other, digest(one))
        # With other versions they are not seen.
        written(other, "4")
        self.assertEqual(compare(one, digest(other)), (0, 1))
        for wrong in (0, sum_of(one.update(EMPTY)) + 1):
            self.raises(ClashingEdits, {"id": (0, 0)}, one, bytes_of(2, 2, 2, 0, 0, 0, wrong))

    def test_f3_how_many_edits_each_copy_has_that_the_other_lacks(self):
        clear = 0
        for seed in range(60):
            party = deeds.lived(random.Random(seed), 60)
            for one in party.sheets:
                for other in party.sheets:
                    mine = {edit[0] for edit in one.edits()}
                    theirs = {edit[0] for edit in other.edits()}
                    found = compare(one, digest(other))
                    self.assertEqual(found, (len(mine - theirs), len(theirs - mine)))
                    # So many edits are new when the one takes all of the other.
                    self.assertEqual(one.copy_for(4).take(other.update(EMPTY)), found[1])
                    clear += min(found) > 0
        self.assertGreater(clear, 50)

    def test_f3_changes_nothing(self):
        sheet = written(Sheet(1, 2, 2), "1")
        before = deeds.everything(sheet)
        digest(sheet).clear()
        outcome(sheet, "take", digest(sheet))
        compare(sheet, digest(Sheet(2, 2, 2)))
        self.assertEqual(deeds.everything(sheet), before)


if __name__ == "__main__":
    unittest.main()
