"""Promises 2, 3, 9 and 10: how many ways there are, the way of a number, the number of a way."""

import copy
import random
import time
import unittest
from itertools import product

from samples import FRACTION_OF_A_SECOND, FULL, LARGE_CRATES, THOUSAND_FIGURES, TINY_CRATES
from samples import every_way, some_ways
from traymap.counting import number_of, way_at, ways_many
from traymap.errors import NoNumber
from traymap.fillings import all_fillings, how_many
from traymap.ways import idle, is_way


class WaysManyTest(unittest.TestCase):
    def assert_many(self, one, other, many):
        handed = copy.deepcopy((one, other))
        told = ways_many(one, other)
        self.assertIs(type(told), int)
        self.assertEqual(told, many, (one, other))
        self.assertEqual((one, other), handed)

    def test_from_the_crate_without_trays(self):
        for other in TINY_CRATES + LARGE_CRATES:
            self.assert_many((), other, 1)

    def test_where_none_leads(self):
        self.assert_many((0,), (), 0)
        self.assert_many(FULL, (), 0)
        self.assert_many((0,), (1,), 0)
        self.assert_many((3, 0, 3), (1, 2), 0)
        self.assert_many((0,) * 60, FULL, 0)

    def test_ordinary_crates(self):
        self.assert_many((0,), (0, 0, 5), 2)
        self.assert_many((1,), (2, 0, 1), 3)
        self.assert_many((2,), (2, 0, 1), 7)
        self.assert_many((3, 2), (1, 2), 72)
        self.assert_many((0, 1), (0, 2), 2)

    def test_as_many_as_are_listed(self):
        for one, other in product(TINY_CRATES, repeat=2):
            self.assert_many(one, other, len(every_way(one, other)))

    def test_the_largest_crates(self):
        self.assert_many(FULL, FULL, (60 * 12 ** 12) ** 60)
        self.assert_many(FULL, (12,), 12 ** 720)
        self.assert_many(FULL, (0,) * 60, 60 ** 60)
        self.assert_many((1,) * 60, FULL, 60 ** 60)
        self.assert_many((12,), tuple(range(13)), sum(12 ** wells for wells in range(13)))

    def test_the_product_of_how_many_fillings(self):
        for one, other in product(TINY_CRATES + LARGE_CRATES, repeat=2):
            due = 1
            for wells in one:
                due *= how_many(other, wells)
            self.assert_many(one, other, due)

    def test_of_two_crates_side_by_side(self):
        halves = ((), (0,), (3, 1), (12,) * 30, (5, 0, 12, 1, 7) * 6)
        for one, two in product(halves, repeat=2):
            for other in TINY_CRATES + LARGE_CRATES:
                self.assert_many(one + two, other, ways_many(one, other) * ways_many(two, other))


class NumberTest(unittest.TestCase):
    def assert_refused(self, one, other, number):
        handed = copy.deepcopy((one, other, number))
        with self.assertRaises(NoNumber) as caught:
            way_at(one, other, number)
        self.assertIs(type(caught.exception), NoNumber)
        self.assertEqual((one, other, number), handed)

    def assert_numbered(self, one, other, number, way):
        handed = copy.deepcopy((one, other, number, way))
        self.assertEqual(repr(way_at(one, other, number)), repr(way))
        told = number_of(one, other, way)
        self.assertIs(type(told), int)
        self.assertEqual(told, number)
        self.assertEqual((one, other, number, way), handed)

    def test_ordinary_ones(self):
        # From (2, 1) to (0, 2): by the last tray first.
        self.assert_numbered((2, 1), (0, 2), 0, ((0, ()), (0, ())))
        self.assert_numbered((2, 1), (0, 2), 1, ((0, ()), (1, (0, 0))))
        self.assert_numbered((2, 1), (0, 2), 2, ((1, (0, 0)), (0, ())))
        self.assert_numbered((2, 1), (0, 2), 4, ((1, (0, 1)), (0, ())))
        self.assert_numbered((2, 1), (0, 2), 9, ((1, (1, 1)), (1, (0, 0))))

    def test_all_numbers_of_tiny_crates(self):
        for one, other in product(TINY_CRATES, repeat=2):
            many = ways_many(one, other)
            told = [way_at(one, other, number) for number in range(many)]
            self.assertEqual(told, every_way(one, other))
            self.assertEqual([number_of(one, other, way) for way in told], list(range(many)))
            self.assertTrue(all(is_way(one, other, way) is True for way in told))
            self.assertTrue(all(way < next_one for way, next_one in zip(told, told[1:])))

    def test_from_the_crate_without_trays(self):
        for other in TINY_CRATES + LARGE_CRATES:
            self.assert_numbered((), other, 0, ())
            self.assert_refused((), other, 1)
            self.assert_refused((), other, -1)

    def test_other_numbers(self):
        for one, other in product(TINY_CRATES + LARGE_CRATES, repeat=2):
            many = ways_many(one, other)
            for number in (many, many + 1, 2 * many + 1, many + THOUSAND_FIGURES):
                self.assert_refused(one, other, number)
            for number in (-1, -2, -many - 1, -THOUSAND_FIGURES):
                self.assert_refused(one, other, number)
            if many:
                self.assert_refused(one, other, -many)

    def test_nought_where_no_way_leads(self):
        for one, other in (((0,), ()), (FULL, ()), ((0,), (1,)), ((3, 0), (2, 1)), ((0,) * 60, FULL)):
            self.assert_refused(one, other, 0)

    def test_a_good_number_behind_a_refused_one(self):
        self.assert_refused((2,), (2,), 4)
        self.assert_numbered((2,), (2,), 3, ((0, (1, 1)),))
        self.assert_refused((2,), (2,), -1)
        self.assert_numbered((2,), (2,), 0, ((0, (0, 0)),))

    def test_first_and_last_of_the_largest_crates(self):
        self.assert_numbered(FULL, FULL, 0, ((0, (0,) * 12),) * 60)
        self.assert_numbered(FULL, FULL, ways_many(FULL, FULL) - 1, ((59, (11,) * 12),) * 60)
        self.assert_numbered(FULL, FULL, 1, ((0, (0,) * 12),) * 59 + ((0, (0,) * 11 + (1,)),))

    def test_numbers_of_many_figures(self):
        chance = random.Random(30)
        for one, other in product(LARGE_CRATES, repeat=2):
            many = ways_many(one, other)
            for _ in range(3 if many else 0):
                number = chance.randrange(many)
                way = way_at(one, other, number)
                self.assertIs(is_way(one, other, way), True)
                self.assertEqual(number_of(one, other, way), number)

    def test_ways_and_their_numbers(self):
        for one, other, way in some_ways(31, LARGE_CRATES, LARGE_CRATES, times=3):
            number = number_of(one, other, way)
            self.assertTrue(0 <= number < ways_many(one, other))
            self.assert_numbered(one, other, number, way)

    def test_numbers_rise_as_tuples_do(self):
        for one, other in product(LARGE_CRATES, repeat=2):
            ways = [way for _, _, way in some_ways(32, (one,), (other,), times=6)]
            numbers = [number_of(one, other, way) for way in sorted(ways)]
            self.assertEqual(numbers, sorted(numbers))

    def test_in_a_fraction_of_a_second(self):
        number = ways_many(FULL, FULL) // 7
        start = time.perf_counter()
        way = way_at(FULL, FULL, number)
        again = number_of(FULL, FULL, way)
        self.assertLess(time.perf_counter() - start, FRACTION_OF_A_SECOND)
        self.assertEqual(again, number)
        self.assert_numbered(FULL, FULL, number_of(FULL, FULL, idle(FULL)), idle(FULL))

    def test_ways_from_one_tray_are_fillings(self):
        for wells in range(13):
            for other in TINY_CRATES:
                if how_many(other, wells) <= 2000:
                    ways = [way_at((wells,), other, number) for number in range(ways_many((wells,), other))]
                    self.assertEqual([way[0] for way in ways], all_fillings(other, wells))
                    self.assertTrue(all(len(way) == 1 for way in ways))


if __name__ == "__main__":
    unittest.main()
