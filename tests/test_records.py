"""Records: f1."""

import random
import unittest

from tablemates.records import read_record, record_of, sum_of


def digits(n):
    """The bytes of an integer, by the words of e5."""
    found = []
    while True:
        n, low = divmod(n, 128)
        found.append(low + 128 if n else low)
        if n == 0:
            return found


def sum_by_words(data):
    found = 1
    for byte in data:
        found = (31 * found + byte + 1) % 65521
    return found


def read_integer(data, at):
    """The integer at an index and the index behind it, by the words of e5; None if there is none."""
    for end in range(at, len(data)):
        if data[end] < 128:
            n = sum((byte % 128) << (7 * place) for place, byte in enumerate(data[at:end + 1]))
            return (n, end + 1) if digits(n) == data[at:end + 1] else None
    return None


def record_by_words(data, at):
    first = read_integer(data, at)
    if first is None or first[1] + first[0] > len(data):
        return None
    body = data[first[1]:first[1] + first[0]]
    told = read_integer(data, first[1] + first[0])
    if told is None or told[0] != sum_by_words(body):
        return None
    return (body, told[1])


def random_bytes(chance, many):
    return [chance.randrange(256) for _ in range(many)]


class Records(unittest.TestCase):
    def test_f1_sums(self):
        for data, want in (([], 1), ([0], 32), ([5], 37), ([0, 0], 993), ([255], 287), ([1, 2, 3], 31810)):
            self.assertEqual(sum_of(data), want)
        self.assertEqual(sum_of([255] * 4000), sum_by_words([255] * 4000))

    def test_f1_records(self):
        self.assertEqual(record_of([]), [0, 1])
        self.assertEqual(record_of([5]), [1, 5, 37])
        self.assertEqual(record_of([255]), [1, 255, 159, 2])
        self.assertEqual(record_of([1, 2, 3]), [3, 1, 2, 3, 194, 248, 1])
        self.assertEqual(record_of([0] * 200)[:3], [200, 1, 0])
        self.assertEqual(len(record_of([0] * 200)[202:]), len(digits(sum_of([0] * 200))))

    def test_f1_read_again(self):
        chance = random.Random(1)
        for many in list(range(40)) + [127, 128, 300, 3990]:
            body = random_bytes(chance, many)
            record = record_of(body)
            self.assertEqual(record, digits(many) + body + digits(sum_by_words(body)))
            self.assertEqual(read_record(record, 0), (body, len(record)))
            self.assertEqual(read_record(record + [7], 0), (body, len(record)))
            self.assertEqual(read_record([9, 200] + record, 2), (body, len(record) + 2))

    def test_f1_none(self):
        record = record_of([255, 4])
        for end in range(len(record)):
            self.assertIsNone(read_record(record[:end], 0))
        self.assertIsNone(read_record([], 0))
        self.assertIsNone(read_record(record, len(record)))
        self.assertIsNone(read_record(record, len(record) + 5))
        self.assertIsNone(read_record([0, 2], 0))
        self.assertIsNone(read_record([0], 0))
        # A length that is not there, not ended, or written in another way; a sum written in another way.
        for data in ([9, 5, 37], [255] * 9, [255] * 30 + [1], [129, 0, 5, 37], [1, 5, 165, 0], [1, 5, 165],
                     [0, 129, 0], [0] + digits(1 + 65521)):
            self.assertIsNone(read_record(data, 0))

    def test_f1_one_byte_changed(self):
        chance = random.Random(5)
        for _ in range(300):
            body = random_bytes(chance, chance.randrange(12))
            record = record_of(body)
            at = chance.randrange(len(record))
            record[at] = chance.choice((0, 1, 127, 128, 255, (record[at] + 1) % 256))
            self.assertEqual(read_record(record, 0), record_by_words(record, 0))

    def test_f1_any_bytes(self):
        chance = random.Random(6)
        for _ in range(2000):
            data = [chance.choice((0, 1, 2, 3, 32, 37, 128, 129, 255)) for _ in range(chance.randrange(8))]
            at = chance.randrange(len(data) + 1)
            before = list(data)
            self.assertEqual(read_record(data, at), record_by_words(data, at), (data, at))
            self.assertEqual(data, before)

    def test_f1_what_is_handed_in_stays(self):
        body = [1, 2, 3]
        record_of(body).append(9)
        self.assertEqual((body, sum_of(body)), ([1, 2, 3], 31810))
        record = record_of(body)
        read_record(record, 0)[0].clear()
        self.assertEqual(read_record(record, 0), ([1, 2, 3], 7))


if __name__ == "__main__":
    unittest.main()
