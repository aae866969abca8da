"""Logs: f2."""

import random
import unittest

import deeds
from deeds import everything
from tablemates.errors import InvalidFile, OutOfRange
from tablemates.logs import Log, opened
from tablemates.records import record_of
from tablemates.sheet import Sheet
from tablemates.wire import write_update

EMPTY = (0, 0, 0, 0)
FIRST = [3, 2, 2, 0]


def written(sheet, text="1"):
    sheet.write((0, 0), text)
    return sheet


def record(begin, *edits):
    return record_of(write_update(begin, list(edits)))


class Writing(unittest.TestCase):
    def test_f2_one_record_or_two(self):
        sheet = Sheet(1, 2, 2)
        first = record((2, 2))
        self.assertEqual(first[:4], FIRST)
        self.assertEqual(Log(sheet).data(), first)
        written(written(sheet))
        self.assertEqual(Log(sheet).data(), first + record((2, 2), *sheet.edits()))

    def test_f2_keep(self):
        sheet = Sheet(1, 2, 2)
        log = Log(sheet)
        self.assertIsNone(log.keep(sheet))
        self.assertEqual(log.data(), record((2, 2)))
        written(sheet)
        log.keep(sheet)
        log.keep(sheet)
        want = record((2, 2)) + record((2, 2), sheet.edits()[0])
        self.assertEqual(log.data(), want)
        written(written(sheet))
        log.keep(sheet)
        self.assertEqual(log.data(), want + record((2, 2), *sheet.edits()[1:]))

    def test_f2_in_the_order_in_which_edits_came(self):
        one, two = written(Sheet(1, 2, 2)), written(written(Sheet(2, 2, 2)))
        log = Log(two)
        two.take(one.update(EMPTY))
        log.keep(two)
        self.assertEqual([edit[0] for edit in two.edits()], [(1, 1), (2, 1), (2, 2)])
        self.assertEqual(log.data(), record((2, 2)) + record((2, 2), *two.edits()[1:]) + record((2, 2), *one.edits()))

    def test_f2_data_is_new_each_time(self):
        log = Log(written(Sheet(1, 2, 2)))
        before = list(log.data())
        log.data().clear()
        log.data().append(4)
        self.assertEqual(log.data(), before)

    def test_f2_a_log_is_its_own(self):
        sheet = Sheet(1, 2, 2)
        log = Log(sheet)
        written(sheet)
        self.assertEqual(log.data(), record((2, 2)))
        log.keep(sheet.copy_for(3))
        self.assertEqual(log.data(), record((2, 2)) + record((2, 2), *sheet.edits()))


class Opening(unittest.TestCase):
    def opens(self, data, edits, end, begin=(2, 2), person=2):
        before = list(data)
        sheet, found = opened(data, person)
        self.assertEqual((sheet.begin(), sheet.edits(), found, sheet.person()), (begin, edits, end, person))
        self.assertEqual(data, before)

    def fails(self, data):
        with self.assertRaises(InvalidFile) as caught:
            opened(data, 1)
        self.assertEqual(vars(caught.exception), {"at": 0})

    def test_f2_opened(self):
        for begin in ((0, 0), (8, 6), (3, 2)):
            self.opens(Log(Sheet(1, *begin)).data(), [], len(record(begin)), begin)
        sheet = written(written(Sheet(1, 2, 2)))
        data = Log(sheet).data()
        self.opens(data, sheet.edits(), len(data), person=4)
        found = opened(data, 1)[0]
        self.assertEqual(everything(found), everything(sheet))
        self.assertEqual(found.undo(), (1, 3))

    def test_f2_no_first_record(self):
        first = record((2, 2))
        for data in ([], first[:-1], first[:1], [4] + first[1:], first[:-1] + [0], record_of([]), record_of([2, 2]),
                     record_of([2, 2, 0, 0]), record_of([9, 2, 0]), record_of([2, 7, 0]), [0, 1], [255] * 20):
            self.fails(data)
        # The first record tells the beginning, and no edits.
        self.fails(record((2, 2), written(Sheet(1, 2, 2)).edits()[0]))

    def test_f2_the_bytes_come_ahead_of_the_person(self):
        with self.assertRaises(InvalidFile):
            opened([], 9)
        with self.assertRaises(OutOfRange):
            opened(record((2, 2)), 9)

    def test_f2_what_follows_is_left_out(self):
        sheet = written(written(written(Sheet(1, 2, 2))))
        one, two, three = sheet.edits()
        first = record((2, 2))
        start = first + record((2, 2), one)
        last = record((2, 2), two, three)
        self.opens(start + last, [one, two, three], len(start + last))
        clash = (one[0], one[1], ("delete", "row", (0, 1)))
        wrong = ((2, 1), EMPTY, ("undo", 1))
        late = ((3, 1), (2, 0, 0, 0), ("delete", "row", (0, 1)))
        for middle in (
                record((2, 1), two), record((2, 2), one), record((2, 2), one, two), record((2, 2), clash),
                record((2, 2), three), record((2, 2), wrong), record((2, 2), late), record((2, 2), two, wrong),
                record_of([2, 2, 0, 0]), record_of([]), [5], [255, 255], record((2, 2), two)[:-1] + [0]):
            self.opens(start + middle + last, [one], len(start))
            self.opens(start + middle, [one], len(start))

    def test_f2_records_of_no_edits_are_taken(self):
        sheet = written(Sheet(1, 2, 2))
        data = record((2, 2)) + record((2, 2)) + record((2, 2), *sheet.edits()) + record((2, 2))
        self.opens(data, sheet.edits(), len(data))
        self.opens(data + record((2, 3)), sheet.edits(), len(data))

    def test_f2_edits_of_others_in_any_order_that_is_valid(self):
        one, two = written(Sheet(1, 2, 2)), written(Sheet(2, 2, 2))
        data = record((2, 2)) + record((2, 2), *two.edits()) + record((2, 2), *one.edits())
        self.opens(data, one.edits() + two.edits(), len(data))

    def test_f2_cut_at_any_byte(self):
        opened_logs = 0
        for seed in range(25):
            chance = random.Random(seed)
            party = deeds.lived(chance, 10)
            sheet = party.sheets[0]
            log = Log(sheet)
            kept = {len(Log(Sheet(1, *sheet.begin())).data()): Sheet(1, *sheet.begin()), len(log.data()): sheet.copy_for(1)}
            for _ in range(25):
                party.live_on(1)
                log.keep(sheet)
                kept[len(log.data())] = sheet.copy_for(1)
            data = log.data()
            shown = {end: everything(copy) for end, copy in kept.items()}
            for end in range(len(data) + 1):
                if end < min(kept):
                    self.fails(data[:end])
                    continue
                found, index = opened(data[:end], 1)
                self.assertEqual(index, max(one for one in kept if one <= end))
                self.assertEqual(found.edits(), kept[index].edits())
                if end in kept:
                    self.assertEqual(everything(found), shown[index])
                    opened_logs += 1
        self.assertGreater(opened_logs, 60)

    def test_f2_a_log_goes_on_behind_the_index(self):
        for seed in range(20):
            chance = random.Random(seed)
            party = deeds.lived(chance, 30)
            sheet = party.sheets[0]
            data = Log(sheet).data()
            data = data[:chance.randint(len(record(sheet.begin())), len(data))]
            found, end = opened(data, 2)
            party.live_on(10)
            more = sheet.update(found.version())
            again = data[:end] + record_of(more)
            self.assertEqual(everything(opened(again, 1)[0]), everything(sheet))

    def test_f2_changed_bytes(self):
        for seed in range(30):
            chance = random.Random(seed)
            party = deeds.lived(chance, 12)
            sheet = party.sheets[0]
            log = Log(sheet)
            ends = [len(record(sheet.begin())), len(log.data())]
            for _ in range(10):
                party.live_on(1)
                log.keep(sheet)
                ends.append(len(log.data()))
            data = log.data()
            for _ in range(20):
                at = chance.randrange(ends[0], len(data)) if len(data) > ends[0] else len(data)
                changed = data[:at] + [chance.randrange(256)] + data[at + 1:]
                if changed[at:at + 1] != data[at:at + 1] and at < len(data):
                    # All records that end ahead of the changed byte are taken, and none behind it.
                    want = max(end for end in ends if end <= at)
                    self.assertEqual(opened(changed, 1)[1], want)


if __name__ == "__main__":
    unittest.main()
