"""Versions: e1."""

import itertools
import unittest

from tablemates.versions import counts, includes, joined, nothing

SOME = list(itertools.product((0, 1, 3), repeat=4))


class Versions(unittest.TestCase):
    def test_e1_nothing(self):
        self.assertEqual(nothing(), (0, 0, 0, 0))

    def test_e1_counts_at_the_entry_and_above_it(self):
        version = (3, 0, 1, 7)
        for person, entry in zip((1, 2, 3, 4), version):
            for number in range(1, 9):
                self.assertIs(counts(version, (person, number)), number <= entry)

    def test_e1_nothing_counts_no_id(self):
        for person in (1, 2, 3, 4):
            self.assertIs(counts(nothing(), (person, 1)), False)

    def test_e1_persons_without_an_entry(self):
        for person in (0, 5):
            self.assertIs(counts((9, 9, 9, 9), (person, 1)), False)

    def test_e1_equal_versions_include_each_other(self):
        for version in SOME:
            self.assertIs(includes(version, version), True)
            self.assertIs(includes(version, nothing()), True)

    def test_e1_each_entry_matters(self):
        for place in range(4):
            greater = tuple(2 if at == place else 1 for at in range(4))
            self.assertIs(includes(greater, (1, 1, 1, 1)), True)
            self.assertIs(includes((1, 1, 1, 1), greater), False)

    def test_e1_on_some_entries_only(self):
        self.assertIs(includes((2, 1, 0, 0), (1, 2, 0, 0)), False)
        self.assertIs(includes((1, 2, 0, 0), (2, 1, 0, 0)), False)
        self.assertIs(includes((9, 9, 9, 0), (0, 0, 0, 1)), False)
        self.assertIs(includes((0, 9, 9, 9), (1, 0, 0, 0)), False)

    def test_e1_includes_exactly_if_it_counts_what_the_other_counts(self):
        for version, other in itertools.product(SOME, SOME):
            ids = [(person, number) for person in (1, 2, 3, 4) for number in range(1, 5)]
            want = all(counts(version, one) for one in ids if counts(other, one))
            self.assertIs(includes(version, other), want, (version, other))

    def test_joined(self):
        self.assertEqual(joined((1, 0, 4, 2), (0, 3, 4, 1)), (1, 3, 4, 2))
        self.assertIsInstance(joined(nothing(), nothing()), tuple)
        for version, other in itertools.product(SOME[::3], SOME):
            found = joined(version, other)
            self.assertEqual(found, joined(other, version))
            self.assertTrue(includes(found, version) and includes(found, other))
            self.assertEqual(found, tuple(max(pair) for pair in zip(version, other)))


if __name__ == "__main__":
    unittest.main()
