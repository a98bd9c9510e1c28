"""Promises 2, 15 and 17: two crates joined, and the ways into them and out of them."""

import copy
import random
import unittest
from itertools import product

from samples import FULL, LARGE_CRATES, TINY_CRATES, MadeCase, every_way, some_filling, some_ways
from traymap.fillings import all_fillings, how_many
from traymap.sums import from_left, from_right, joined, joined_way
from traymap.ways import after, is_way, turned

HALVES = ((), (0,), (12,), (3, 1), (0, 0, 2), (12,) * 30, tuple(range(13)), (5, 0, 12, 1, 7) * 6)


class JoinedTest(MadeCase):
    make = staticmethod(joined)

    def test_the_trays_of_the_one_then_those_of_the_other(self):
        self.assert_made((2, 0), (1,), (2, 0, 1))
        self.assert_made((1,), (2, 0), (1, 2, 0))
        for one, other in product(HALVES, repeat=2):
            self.assert_made(one, other, tuple(list(one) + list(other)))

    def test_without_trays(self):
        self.assert_made((), (), ())
        self.assert_made((), (3,), (3,))
        self.assert_made((3,), (), (3,))
        self.assert_made(FULL, (), FULL)
        self.assert_made((), FULL, FULL)

    def test_exactly_sixty_trays_and_one_more(self):
        for trays in range(61):
            one, other = (12,) * trays, (0,) * (60 - trays)
            self.assert_made(one, other, one + other)
            if trays:
                self.assert_refused(one, other + (0,))
            if trays < 60:
                self.assert_refused(one + (12,), other)

    def test_far_too_big(self):
        self.assert_refused(FULL, FULL)
        self.assert_refused((0,) * 60, FULL)

    def test_as_many_fillings_as_both(self):
        for one, other in product(HALVES, repeat=2):
            for number in (0, 1, 2, 1000):
                many = how_many(joined(one, other), number)
                self.assertEqual(many, how_many(one, number) + how_many(other, number))


class IntoJoinedTest(unittest.TestCase):
    def test_ordinary_ones(self):
        self.assertEqual(from_left((2, 0), (1,)), ((0, (0, 1)), (1, ())))
        self.assertEqual(from_right((2, 0), (1,)), ((2, (0,)),))
        self.assertEqual(from_right((2, 0), (1, 3)), ((2, (0,)), (3, (0, 1, 2))))

    def test_without_trays(self):
        self.assertEqual(from_left((), ()), ())
        self.assertEqual(from_right((), ()), ())
        self.assertEqual(from_left((), (1,)), ())
        self.assertEqual(from_right((1,), ()), ())
        self.assertEqual(from_left((1,), ()), ((0, (0,)),))
        self.assertEqual(from_right((), (1,)), ((0, (0,)),))

    def test_ways_that_keep_all_wells(self):
        chance = random.Random(60)
        for one, other in product(HALVES, repeat=2):
            handed = copy.deepcopy((one, other))
            crate, left, right = joined(one, other), from_left(one, other), from_right(one, other)
            self.assertEqual((one, other), handed)
            self.assertIs(is_way(one, crate, left), True)
            self.assertIs(is_way(other, crate, right), True)
            for tray in range(len(one)):
                filling = some_filling(chance, one, tray)
                self.assertEqual(turned(left, filling), filling)
            for tray in range(len(other)):
                filling = some_filling(chance, other, tray)
                self.assertEqual(turned(right, filling), (len(one) + tray, filling[1]))

    def test_each_filling_comes_of_just_one(self):
        for one, other in product(TINY_CRATES, repeat=2):
            made = [turned(from_left(one, other), filling) for filling in all_fillings(one, 2)]
            made += [turned(from_right(one, other), filling) for filling in all_fillings(other, 2)]
            self.assertEqual(made, all_fillings(joined(one, other), 2))


class JoinedWayTest(unittest.TestCase):
    def assert_does_both(self, one, other, third, way, other_way):
        handed = copy.deepcopy((way, other_way))
        both = joined_way(way, other_way)
        self.assertEqual((way, other_way), handed)
        self.assertIs(is_way(joined(one, other), third, both), True)
        self.assertEqual(after(from_left(one, other), both), way)
        self.assertEqual(after(from_right(one, other), both), other_way)

    def test_an_ordinary_one(self):
        told = joined_way(((1, (1, 1)), (0, ())), ((1, (0, 2)),))
        self.assertEqual(told, ((1, (1, 1)), (0, ()), (1, (0, 2))))

    def test_without_trays(self):
        self.assert_does_both((), (), (), (), ())
        self.assert_does_both((), (), FULL, (), ())
        self.assert_does_both((2,), (), (1,), ((0, (1,)),), ())
        self.assert_does_both((), (2,), (1,), (), ((0, (1,)),))

    def test_all_of_tiny_crates(self):
        for one, other, third in product(((), (0,), (2,), (0, 1)), ((1,), (2, 0)), TINY_CRATES):
            for way, other_way in product(every_way(one, third), every_way(other, third)):
                self.assert_does_both(one, other, third, way, other_way)

    def test_of_large_crates(self):
        for third in LARGE_CRATES:
            first, second = some_ways(61, HALVES, (third,)), some_ways(62, HALVES, (third,))
            for (one, _, way), (other, _, other_way) in product(first, second):
                self.assert_does_both(one, other, third, way, other_way)


if __name__ == "__main__":
    unittest.main()
