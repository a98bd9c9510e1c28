"""Promises 2 and 5: how many fillings, all fillings, the plain filling."""

import unittest
from itertools import product

from traymap.crates import is_filling
from traymap.errors import TooMany
from traymap.fillings import all_fillings, how_many, plain

SMALL_CRATES = (
    (),
    (0,),
    (0, 0, 0),
    (1,),
    (2,),
    (3,),
    (1, 0),
    (0, 1),
    (2, 0, 1),
    (3, 3),
    (1, 2, 3, 4),
    (0,) * 60,
    (1,) * 60,
)


class HowManyTest(unittest.TestCase):
    def assert_many(self, crate, number, many):
        told = how_many(crate, number)
        self.assertIs(type(told), int)
        self.assertEqual(told, many, (crate, number))

    def test_the_crate_without_trays(self):
        for number in (0, 1, 2, 1000):
            self.assert_many((), number, 0)

    def test_trays_without_wells(self):
        for number in (0, 1, 2, 1000):
            for trays in (1, 2, 60):
                self.assert_many((0,) * trays, number, trays)

    def test_no_things(self):
        self.assert_many((1,), 0, 0)
        self.assert_many((12,) * 60, 0, 0)
        self.assert_many((0, 1, 0, 12), 0, 2)

    def test_one_thing(self):
        for crate in SMALL_CRATES + ((12,) * 60,):
            self.assert_many(crate, 1, len(crate))

    def test_ordinary_crates(self):
        self.assert_many((1,), 7, 7)
        self.assert_many((2,), 3, 9)
        self.assert_many((3,), 2, 8)
        self.assert_many((2, 0, 1), 5, 31)
        self.assert_many((3, 3), 10, 2000)
        self.assert_many((12,), 2, 4096)

    def test_many_things(self):
        self.assert_many((1,), 1000, 1000)
        self.assert_many((2, 1, 0), 1000, 1001001)
        self.assert_many((12,), 1000, 10 ** 36)
        self.assert_many((12,) * 60, 1000, 60 * 10 ** 36)


class AllFillingsTest(unittest.TestCase):
    def test_by_trays_then_by_things(self):
        self.assertEqual(
            all_fillings((2, 0, 1), 2),
            [
                (0, (0, 0)),
                (0, (0, 1)),
                (0, (1, 0)),
                (0, (1, 1)),
                (1, ()),
                (2, (0,)),
                (2, (1,)),
            ],
        )

    def test_tuples_rise_by_number_not_by_text(self):
        told = all_fillings((2,), 11)
        self.assertEqual(told, sorted(told))
        self.assertEqual(told[10:13], [(0, (0, 10)), (0, (1, 0)), (0, (1, 1))])
        self.assertEqual(told[-1], (0, (10, 10)))

    def test_all_and_in_order(self):
        for crate in SMALL_CRATES:
            for number in (0, 1, 2, 3, 5):
                due = []
                for tray, wells in enumerate(crate):
                    due += [(tray, row) for row in product(range(number), repeat=wells)]
                with self.subTest(crate=crate, number=number):
                    told = all_fillings(crate, number)
                    self.assertIs(type(told), list)
                    self.assertEqual(told, due)
                    self.assertEqual(len(told), how_many(crate, number))
                    self.assertTrue(all(is_filling(crate, one) for one in told))

    def test_no_things(self):
        self.assertEqual(all_fillings((1,), 0), [])
        self.assertEqual(all_fillings((12,) * 60, 0), [])
        self.assertEqual(all_fillings((3, 0, 1, 0), 0), [(1, ()), (3, ())])

    def test_the_crate_without_trays(self):
        for number in (0, 1, 1000):
            self.assertEqual(all_fillings((), number), [])

    def test_one_thing_in_the_largest_crate(self):
        told = all_fillings((12,) * 60, 1)
        self.assertEqual(told, [(tray, (0,) * 12) for tray in range(60)])

    def test_exactly_two_thousand(self):
        for crate, number in (((1, 1), 1000), ((3, 3), 10), ((1,) * 2 + (0,) * 2, 999)):
            with self.subTest(crate=crate, number=number):
                told = all_fillings(crate, number)
                self.assertEqual(len(told), 2000)
                self.assertEqual(len(set(told)), 2000)
                self.assertTrue(all(is_filling(crate, one) for one in told))

    def test_two_thousand_and_one(self):
        for crate, number in (((1, 1, 0), 1000), ((0, 3, 3), 10), ((1,) * 2 + (0,) * 3, 999)):
            with self.subTest(crate=crate, number=number):
                self.assertEqual(how_many(crate, number), 2001)
                with self.assertRaises(TooMany):
                    all_fillings(crate, number)

    def test_far_too_many(self):
        for crate, number in (((12,) * 60, 1000), ((12,), 2), ((2,), 1000), ((1,) * 60, 34)):
            with self.subTest(crate=crate, number=number):
                with self.assertRaises(TooMany):
                    all_fillings(crate, number)

    def test_the_list_is_new_each_time(self):
        first = all_fillings((2, 0, 1), 2)
        due = list(first)
        again = all_fillings((2, 0, 1), 2)
        self.assertIsNot(first, again)
        first.append("more")
        first[0] = None
        again.clear()
        self.assertEqual(all_fillings((2, 0, 1), 2), due)

    def test_an_empty_list_is_new_too(self):
        first = all_fillings((), 3)
        first.append("more")
        self.assertEqual(all_fillings((), 3), [])

    def test_a_number_below_nought_is_no_refusal(self):
        # The interface: a little beyond a limit raises no error.
        self.assertEqual(all_fillings((12,), -2), [])
        self.assertEqual(how_many((12,), -2), 0)


class PlainTest(unittest.TestCase):
    def test_each_number_of_wells(self):
        crate = tuple(range(13))
        for tray in range(13):
            told = plain(crate, tray)
            self.assertEqual(told, (tray, tuple(range(tray))))
            self.assertIs(is_filling(crate, told), True)

    def test_named_edges(self):
        crate = (12, 0, 1)
        self.assertEqual(plain(crate, 0), (0, (0, 1, 2, 3, 4, 5, 6, 7, 8, 9, 10, 11)))
        self.assertEqual(plain(crate, 1), (1, ()))
        self.assertEqual(plain(crate, 2), (2, (0,)))

    def test_the_last_of_sixty(self):
        self.assertEqual(plain((0,) * 59 + (2,), 59), (59, (0, 1)))


class HandedInTest(unittest.TestCase):
    def test_what_is_handed_in_stays_as_it_is(self):
        crate = (2, 0, 1)
        how_many(crate, 3)
        all_fillings(crate, 3)
        plain(crate, 0)
        self.assertEqual(crate, (2, 0, 1))


if __name__ == "__main__":
    unittest.main()
