"""Promises 2, 3 and 21: whether a way keeps trays or wells, and the two parts of a way."""

import copy
import unittest
from itertools import product

from samples import FULL, LARGE_CRATES, TINY_CRATES, every_way, some_ways
from traymap.crates import is_crate
from traymap.parts import keeps_trays, keeps_wells, parts
from traymap.ways import after, idle, is_way


class KeepsTest(unittest.TestCase):
    def assert_keeps(self, one, way, trays, wells):
        handed = copy.deepcopy((one, way))
        self.assertIs(keeps_trays(way), trays, way)
        self.assertIs(keeps_wells(one, way), wells, (one, way))
        self.assertEqual((one, way), handed)

    def test_both(self):
        for crate in TINY_CRATES + LARGE_CRATES:
            self.assert_keeps(crate, idle(crate), True, True)
        # To a crate with more trays.
        self.assert_keeps((2, 1), ((0, (0, 1)), (1, (0,))), True, True)

    def test_trays_alone(self):
        self.assert_keeps((2,), ((0, (1, 0)),), True, False)
        self.assert_keeps((2,), ((0, (0,)),), True, False)
        self.assert_keeps((2,), ((0, (0, 1, 1)),), True, False)
        self.assert_keeps((2,), ((0, ()),), True, False)
        self.assert_keeps((1, 2), ((0, (0,)), (1, (1, 1))), True, False)
        self.assert_keeps(FULL, idle(FULL)[:59] + ((59, tuple(range(11))),), True, False)

    def test_wells_alone(self):
        self.assert_keeps((2,), ((1, (0, 1)),), False, True)
        self.assert_keeps((2, 2), ((1, (0, 1)), (0, (0, 1))), False, True)
        self.assert_keeps((2, 2), ((0, (0, 1)), (0, (0, 1))), False, True)
        self.assert_keeps((0, 1), ((0, ()), (3, (0,))), False, True)
        self.assert_keeps(FULL, idle(FULL)[:59] + ((0, tuple(range(12))),), False, True)

    def test_neither(self):
        self.assert_keeps((2,), ((1, (1, 0)),), False, False)
        self.assert_keeps((2, 1), ((1, (0,)), (1, (0,))), False, False)
        self.assert_keeps((2, 1), ((0, (1, 0)), (0, (0,))), False, False)
        self.assert_keeps((1, 2), ((1, (0, 0)), (0, (1,))), False, False)

    def test_the_way_without_pairs(self):
        self.assert_keeps((), (), True, True)

    def test_trays_without_wells(self):
        self.assert_keeps((0,), ((0, ()),), True, True)
        self.assert_keeps((0,), ((4, ()),), False, True)
        self.assert_keeps((0, 0), ((1, ()), (0, ())), False, True)
        self.assert_keeps((0, 1), ((0, ()), (1, ())), True, False)

    def test_by_their_words(self):
        for one, other in product(TINY_CRATES, repeat=2):
            for way in every_way(one, other):
                trays = [target for target, _ in way] == list(range(len(one)))
                wells = [taken for _, taken in way] == [tuple(range(many)) for many in one]
                self.assert_keeps(one, way, trays, wells)


class PartsTest(unittest.TestCase):
    def assert_parts(self, one, other, way):
        handed = copy.deepcopy((one, other, way))
        told = parts(one, other, way)
        self.assertEqual((one, other, way), handed)
        self.assertIs(type(told), tuple)
        middle, first, second = told
        self.assertIs(is_crate(middle), True)
        self.assertEqual(len(middle), len(one))
        self.assertIs(is_way(one, middle, first), True)
        self.assertIs(is_way(middle, other, second), True)
        self.assertIs(keeps_trays(first), True)
        self.assertIs(keeps_wells(middle, second), True)
        self.assertEqual(after(first, second), way)
        return told

    def test_ordinary_ones(self):
        told = self.assert_parts((2, 1), (0, 2), ((1, (1, 0)), (0, ())))
        self.assertEqual(told, ((2, 0), ((0, (1, 0)), (1, ())), ((1, (0, 1)), (0, ()))))
        told = self.assert_parts((2, 1), (0, 3), ((1, (1, 0, 1)), (1, (0, 0, 0))))
        self.assertEqual(told, ((3, 3), ((0, (1, 0, 1)), (1, (0, 0, 0))), ((1, (0, 1, 2)), (1, (0, 1, 2)))))

    def test_all_ways_between_tiny_crates(self):
        for one, other in product(TINY_CRATES, repeat=2):
            for way in every_way(one, other):
                self.assert_parts(one, other, way)

    def test_ways_between_large_crates(self):
        for one, other, way in some_ways(100, LARGE_CRATES + TINY_CRATES, LARGE_CRATES + TINY_CRATES):
            self.assert_parts(one, other, way)

    def test_crates_without_trays(self):
        for other in TINY_CRATES + LARGE_CRATES:
            self.assertEqual(self.assert_parts((), other, ()), ((), (), ()))

    def test_of_a_way_that_keeps_trays_the_second_is_idle(self):
        for one, other in product(TINY_CRATES, repeat=2):
            for way in every_way(one, other):
                if keeps_trays(way):
                    self.assertEqual(parts(one, other, way), (other[:len(one)], way, idle(other[:len(one)])))

    def test_of_a_way_that_keeps_wells_the_first_is_idle(self):
        for one, other in product(TINY_CRATES, repeat=2):
            for way in every_way(one, other):
                if keeps_wells(one, way):
                    self.assertEqual(parts(one, other, way), (one, idle(one), way))

    def test_of_the_idle_way_both_are_idle(self):
        for crate in TINY_CRATES + LARGE_CRATES:
            self.assertEqual(self.assert_parts(crate, crate, idle(crate)), (crate, idle(crate), idle(crate)))

    def test_the_parts_of_two_such_ways_are_those_very_ways(self):
        done = 0
        for one, middle in product(TINY_CRATES, repeat=2):
            if len(one) == len(middle):
                firsts = [way for way in every_way(one, middle) if keeps_trays(way)]
                for other in TINY_CRATES:
                    seconds = [way for way in every_way(middle, other) if keeps_wells(middle, way)]
                    for first, second in product(firsts, seconds):
                        self.assertEqual(parts(one, other, after(first, second)), (middle, first, second))
                        done += 1
        self.assertGreater(done, 300)


if __name__ == "__main__":
    unittest.main()
