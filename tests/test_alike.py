"""Promises 2, 3, 11 and 12: what parts two ways, and whether two crates are alike."""

import copy
import random
import time
import unittest
from itertools import product

from samples import FRACTION_OF_A_SECOND, FULL, LARGE_CRATES, TINY_CRATES, every_way, some_ways
from traymap.alike import crates_alike, parting
from traymap.crates import is_filling
from traymap.fillings import how_many
from traymap.ways import after, idle, is_way, turned


class PartingTest(unittest.TestCase):
    def assert_parted(self, one, way, other_way):
        handed = copy.deepcopy((one, way, other_way))
        filling = parting(one, way, other_way)
        self.assertEqual((one, way, other_way), handed)
        self.assertIs(is_filling(one, filling), True, (one, way, other_way))
        for thing in filling[1]:
            self.assertIs(type(thing), int)
            self.assertIn(thing, (0, 1))
        self.assertNotEqual(turned(way, filling), turned(other_way, filling))

    def assert_parted_either_way_about(self, one, way, other_way):
        self.assert_parted(one, way, other_way)
        self.assert_parted(one, other_way, way)

    def assert_same(self, one, way, other_way):
        handed = copy.deepcopy((one, way, other_way))
        self.assertIsNone(parting(one, way, other_way))
        self.assertEqual((one, way, other_way), handed)

    def test_all_pairs_of_ways_between_tiny_crates(self):
        for one, other in product(TINY_CRATES, repeat=2):
            ways = every_way(one, other)
            for way, other_way in product(ways, repeat=2):
                if way == other_way:
                    self.assert_same(one, way, other_way)
                else:
                    self.assert_parted(one, way, other_way)

    def test_equal_ways(self):
        self.assert_same((), (), ())
        for one, _, way in some_ways(40, LARGE_CRATES + TINY_CRATES, LARGE_CRATES):
            self.assert_same(one, way, copy.deepcopy(way))
            self.assert_same(one, way, tuple(list(way)))

    def test_unlike_ways_between_large_crates(self):
        for one, other in product(LARGE_CRATES, repeat=2):
            ways = [way for _, _, way in some_ways(41, (one,), (other,), times=4)]
            for way, other_way in product(ways, repeat=2):
                if way != other_way:
                    self.assert_parted(one, way, other_way)

    def test_one_well(self):
        chance = random.Random(42)
        for one, other, way in some_ways(43, (FULL, (2, 3, 12), (12,)), (FULL, (12,), (1,), (5, 2))):
            for tray in {0, chance.randrange(len(one)), len(one) - 1}:
                target, wells = way[tray]
                for place in range(len(wells)):
                    well = (wells[place] + chance.randrange(1, one[tray])) % one[tray]
                    pair = (target, wells[:place] + (well,) + wells[place + 1:])
                    changed = way[:tray] + (pair,) + way[tray + 1:]
                    self.assert_parted_either_way_about(one, way, changed)

    def test_wells_exchanged(self):
        self.assert_parted_either_way_about((2,), ((0, (0, 1)),), ((0, (1, 0)),))
        self.assert_parted_either_way_about((3,), ((0, (0, 1, 2)),), ((0, (1, 2, 0)),))
        turned_about = tuple(range(11, -1, -1))
        self.assert_parted_either_way_about(FULL, idle(FULL), idle(FULL)[:59] + ((59, turned_about),))

    def test_one_tray(self):
        self.assert_parted_either_way_about((2, 2), ((0, (0, 1)), (0, (0, 1))), ((0, (0, 1)), (1, (0, 1))))
        self.assert_parted_either_way_about((1, 3), ((0, (0,)), (2, (2, 0))), ((0, (0,)), (1, (2,))))
        self.assert_parted_either_way_about(FULL, idle(FULL), idle(FULL)[:59] + ((58, tuple(range(12))),))

    def test_trays_without_wells(self):
        self.assert_parted_either_way_about((0,), ((0, ()),), ((1, ()),))
        self.assert_parted_either_way_about((3, 0), ((0, ()), (0, ())), ((0, ()), (1, ())))
        self.assert_parted_either_way_about((12,), ((0, ()),), ((1, ()),))
        self.assert_parted_either_way_about((1,), ((0, ()),), ((1, (0, 0, 0)),))


class CratesAlikeTest(unittest.TestCase):
    def told(self, one, other):
        handed = copy.deepcopy((one, other))
        answer = crates_alike(one, other)
        self.assertEqual((one, other), handed)
        self.assertIs(type(answer), tuple)
        return answer

    def assert_alike(self, one, other):
        word, way, back = self.told(one, other)
        self.assertEqual(word, "alike")
        self.assertIs(is_way(one, other, way), True)
        self.assertIs(is_way(other, one, back), True)
        self.assertEqual(after(way, back), idle(one))
        self.assertEqual(after(back, way), idle(other))

    def assert_unlike(self, one, other):
        for first, second in ((one, other), (other, one)):
            word, number = self.told(first, second)
            self.assertEqual(word, "unlike")
            self.assertIs(type(number), int)
            self.assertTrue(0 <= number <= 1000)
            self.assertNotEqual(how_many(first, number), how_many(second, number))

    def test_the_crate_itself(self):
        for crate in TINY_CRATES + LARGE_CRATES:
            self.assert_alike(crate, crate)
            self.assert_alike(crate, tuple(list(crate)))

    def test_trays_in_another_order(self):
        chance = random.Random(44)
        self.assert_alike((0, 1), (1, 0))
        self.assert_alike((3, 1, 2), (2, 3, 1))
        self.assert_alike((2, 1, 2, 0, 1), (1, 2, 1, 0, 2))
        for crate in TINY_CRATES + LARGE_CRATES:
            self.assert_alike(crate, crate[::-1])
            trays = list(crate)
            chance.shuffle(trays)
            self.assert_alike(crate, tuple(trays))
            self.assert_alike(tuple(trays), crate)

    def test_just_one_of_both(self):
        crates = [crate for trays in range(4) for crate in product(range(4), repeat=trays)]
        for one, other in product(crates, repeat=2):
            if sorted(one) == sorted(other):
                self.assert_alike(one, other)
            else:
                self.assert_unlike(one, other)

    def test_the_crate_without_trays(self):
        self.assert_alike((), ())
        for other in ((0,), (1,), (12,), (0, 0), (0,) * 60, FULL):
            self.assert_unlike((), other)

    def test_a_well_more(self):
        for wells in range(12):
            self.assert_unlike((wells,), (wells + 1,))
            self.assert_unlike((3, wells, 12), (3, wells + 1, 12))
        self.assert_unlike(FULL, (12,) * 59 + (11,))

    def test_a_tray_more(self):
        for wells in range(13):
            self.assert_unlike((3, 12), (3, 12, wells))
            self.assert_unlike((wells,) * 59, (wells,) * 60)

    def test_a_well_moved_to_another_tray(self):
        self.assert_unlike((2, 2), (1, 3))
        self.assert_unlike((1, 1), (0, 2))
        self.assert_unlike((6,) * 60, (7, 5) + (6,) * 58)
        self.assert_unlike((11, 11) + (12,) * 58, (10, 12) + (12,) * 58)

    def test_as_many_fillings_of_a_few_numbers_of_things(self):
        self.assert_unlike((2,), (1, 1))
        self.assert_unlike((3, 1, 1), (2, 2, 2))
        self.assert_unlike((12,), (1,))
        # As many of 0, 1, 2 and 3 things: (n)(n - 1)(n - 2)(n - 3) is n^4 - 6n^3 + 11n^2 - 6n.
        one, other = (4,) + (2,) * 11, (3,) * 6 + (1,) * 6
        self.assertEqual([how_many(one, number) for number in range(4)], [how_many(other, number) for number in range(4)])
        self.assert_unlike(one, other)

    def test_in_a_fraction_of_a_second(self):
        mixed = tuple(range(13)) * 4 + (12,) * 8
        start = time.perf_counter()
        answers = [crates_alike(mixed, mixed[::-1]), crates_alike(FULL, FULL), crates_alike(FULL, mixed)]
        self.assertLess(time.perf_counter() - start, FRACTION_OF_A_SECOND)
        self.assertEqual([answer[0] for answer in answers], ["alike", "alike", "unlike"])
        self.assert_alike(mixed, mixed[::-1])
        self.assert_unlike(FULL, mixed)


if __name__ == "__main__":
    unittest.main()
