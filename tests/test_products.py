"""Promises 2, 16 and 17: two crates multiplied, and the ways out of them and into them."""

import copy
import random
import unittest
from itertools import product

from samples import FULL, LARGE_CRATES, TINY_CRATES, MadeCase, every_way, some_filling, some_way
from traymap.fillings import how_many
from traymap.products import multiplied, paired_way, to_left, to_right
from traymap.ways import after, is_way, turned

# Each of the first times each of the second is a crate.
FIRST = ((), (0,), (6,), (3, 1), (0, 0, 2), (0, 1, 2, 3, 4, 5))
SECOND = ((), (0,), (6,), (2, 5), (1, 0, 4), (6, 5, 4, 3, 2, 1, 0, 1, 2, 3))


class MultipliedTest(MadeCase):
    make = staticmethod(multiplied)

    def test_a_tray_for_each_pair_rising(self):
        self.assert_made((1, 2), (3, 0, 5), (4, 1, 6, 5, 2, 7))
        self.assert_made((3, 0, 5), (1, 2), (4, 5, 1, 2, 6, 7))
        self.assert_made((2,), (3,), (5,))
        self.assert_made((0,), (7, 1), (7, 1))
        for one, other in product(FIRST, SECOND):
            self.assert_made(one, other, tuple(sum(pair) for pair in product(one, other)))

    def test_a_crate_without_trays(self):
        for crate in TINY_CRATES + LARGE_CRATES:
            self.assert_made((), crate, ())
            self.assert_made(crate, (), ())

    def test_exactly_sixty_trays_and_beyond(self):
        for trays in (1, 2, 3, 4, 5, 6, 10, 12, 15, 20, 30, 60):
            one, other = (0,) * trays, (12,) * (60 // trays)
            self.assert_made(one, other, FULL)
            self.assert_refused(one, other + (12,))
            self.assert_refused(one + (0,), other)
        # No two crates make 61 trays, a prime: so 62 are the fewest beyond 60.
        self.assert_refused((0,) * 2, (0,) * 31)
        self.assert_refused((0,) * 7, (0,) * 9)

    def test_exactly_twelve_wells_and_beyond(self):
        for wells in range(13):
            self.assert_made((wells,), (12 - wells,), (12,))
            self.assert_made((0, wells), (12 - wells, 0), (12 - wells, 0, 12, wells))
            if wells:
                self.assert_refused((wells,), (13 - wells,))
                self.assert_refused((0, wells), (0, 13 - wells))
                self.assert_refused((wells, 0), (13 - wells, 0))

    def test_far_too_big(self):
        self.assert_refused(FULL, FULL)
        self.assert_refused((0,) * 60, (0,) * 60)
        self.assert_refused((12,), (12,))

    def test_as_many_fillings_as_the_product(self):
        for one, other in product(FIRST, SECOND):
            for number in (0, 1, 2, 1000):
                many = how_many(multiplied(one, other), number)
                self.assertEqual(many, how_many(one, number) * how_many(other, number))


class OutOfProductTest(unittest.TestCase):
    def test_ordinary_ones(self):
        # The product has the trays 4, 1, 5, 2.
        self.assertEqual(to_left((1, 2), (3, 0)), ((0, (0,)), (0, (0,)), (1, (0, 1)), (1, (0, 1))))
        self.assertEqual(to_right((1, 2), (3, 0)), ((0, (1, 2, 3)), (1, ()), (0, (2, 3, 4)), (1, ())))

    def test_without_trays(self):
        for one, other in (((), ()), ((2, 1), ()), ((), (2, 1)), (FULL, ()), ((), FULL)):
            self.assertEqual(to_left(one, other), ())
            self.assertEqual(to_right(one, other), ())

    def test_the_first_and_the_second_of_both(self):
        chance = random.Random(70)
        for one, other in product(FIRST, SECOND):
            handed = copy.deepcopy((one, other))
            crate, left, right = multiplied(one, other), to_left(one, other), to_right(one, other)
            self.assertEqual((one, other), handed)
            self.assertIs(is_way(crate, one, left), True)
            self.assertIs(is_way(crate, other, right), True)
            for tray, (first, second) in enumerate(product(range(len(one)), range(len(other)))):
                filling, other_filling = some_filling(chance, one, first), some_filling(chance, other, second)
                both = (tray, filling[1] + other_filling[1])
                self.assertEqual(turned(left, both), filling)
                self.assertEqual(turned(right, both), other_filling)


class PairedWayTest(unittest.TestCase):
    def assert_does_both(self, start, one, other, way, other_way):
        handed = copy.deepcopy((one, other, way, other_way))
        both = paired_way(one, other, way, other_way)
        self.assertEqual((one, other, way, other_way), handed)
        self.assertIs(is_way(start, multiplied(one, other), both), True)
        self.assertEqual(after(both, to_left(one, other)), way)
        self.assertEqual(after(both, to_right(one, other)), other_way)
        return both

    def test_an_ordinary_one(self):
        told = self.assert_does_both((2,), (0, 1), (3, 2), ((1, (1,)),), ((1, (0, 1)),))
        self.assertEqual(told, ((3, (1, 0, 1)),))

    def test_without_trays(self):
        self.assert_does_both((), (), (), (), ())
        self.assert_does_both((), (2, 1), (), (), ())
        self.assert_does_both((), (), (2, 1), (), ())
        self.assert_does_both((), (2, 1), (1, 0, 4), (), ())

    def test_the_ways_out_paired_are_idle(self):
        for one, other in product(FIRST, SECOND):
            crate = multiplied(one, other)
            both = self.assert_does_both(crate, one, other, to_left(one, other), to_right(one, other))
            self.assertEqual(both, tuple((tray, tuple(range(wells))) for tray, wells in enumerate(crate)))

    def test_all_of_tiny_crates(self):
        for start, one, other in product(((), (0,), (2,), (0, 1)), ((0,), (1, 2), (0, 2, 1)), ((1,), (2, 0))):
            made = set()
            for way, other_way in product(every_way(start, one), every_way(start, other)):
                made.add(self.assert_does_both(start, one, other, way, other_way))
            self.assertEqual(sorted(made), every_way(start, multiplied(one, other)))

    def test_of_large_crates(self):
        chance = random.Random(71)
        done = 0
        for start, one, other in product(LARGE_CRATES, FIRST, SECOND):
            way, other_way = some_way(chance, start, one), some_way(chance, start, other)
            if way is not None and other_way is not None:
                self.assert_does_both(start, one, other, way, other_way)
                done += 1
        self.assertGreater(done, 100)


if __name__ == "__main__":
    unittest.main()
