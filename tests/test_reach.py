"""Promises 2, 3, 13 and 14: whether a way is onto, and whether it is one to one."""

import copy
import unittest
from itertools import product

from samples import FULL, LARGE_CRATES, TINY_CRATES, every_way, some_ways
from traymap.crates import is_filling
from traymap.fillings import all_fillings
from traymap.reach import one_to_one, onto
from traymap.ways import idle, turned


def leads_fully(way, source, tray):
    """Whether the source leads to the tray by wells without one twice."""
    target, wells = way[source]
    return target == tray and len(set(wells)) == len(wells)


def comes_of(one, way, filling):
    """Whether the filling comes of one of the crate one: each thing is put into the wells from which it comes."""
    for source, (target, wells) in enumerate(way):
        things = [None] * one[source]
        for well, thing in zip(wells, filling[1]):
            things[well] = thing
        if target == filling[0] and turned(way, (source, tuple(things))) == filling:
            return True
    return False


class OntoTest(unittest.TestCase):
    def told(self, one, other, way):
        handed = copy.deepcopy((one, other, way))
        answer = onto(one, other, way)
        self.assertEqual((one, other, way), handed)
        self.assertIs(type(answer), tuple)
        return answer

    def assert_onto(self, one, other, way):
        word, trays = self.told(one, other, way)
        self.assertEqual(word, "onto")
        self.assertIs(type(trays), tuple)
        self.assertEqual(len(trays), len(other))
        for tray, source in enumerate(trays):
            self.assertIs(type(source), int)
            self.assertIn(source, range(len(one)))
            self.assertTrue(leads_fully(way, source, tray), (way, trays))

    def assert_missed(self, one, other, way):
        word, filling = self.told(one, other, way)
        self.assertEqual(word, "missed")
        self.assertIs(is_filling(other, filling), True)
        self.assertFalse(comes_of(one, way, filling), (way, filling))

    def assert_either(self, one, other, way):
        full = [any(leads_fully(way, source, tray) for source in range(len(one))) for tray in range(len(other))]
        if all(full):
            self.assert_onto(one, other, way)
        else:
            self.assert_missed(one, other, way)
        return all(full)

    def test_all_ways_between_tiny_crates(self):
        for one, other in product(TINY_CRATES, repeat=2):
            for way in every_way(one, other):
                self.assert_either(one, other, way)

    def test_what_is_missed_comes_of_no_filling(self):
        for one, other in product(TINY_CRATES, repeat=2):
            for way in every_way(one, other):
                answer = onto(one, other, way)
                reached = {turned(way, filling) for filling in all_fillings(one, 3)}
                if answer[0] == "onto":
                    self.assertLessEqual(set(all_fillings(other, 3)), reached)
                else:
                    self.assertNotIn(answer[1], reached)

    def test_ways_between_large_crates(self):
        crates = LARGE_CRATES + TINY_CRATES
        for one, other, way in some_ways(50, crates, crates, times=2):
            self.assert_either(one, other, way)

    def test_idle_ways(self):
        for crate in LARGE_CRATES + TINY_CRATES:
            self.assert_onto(crate, crate, idle(crate))

    def test_wells_in_another_order_and_left_out(self):
        self.assert_onto((3,), (3,), ((0, (2, 0, 1)),))
        self.assert_onto((3,), (2,), ((0, (2, 0)),))
        self.assert_onto((12,), (0,), ((0, ()),))
        self.assert_onto((12,), (12,), ((0, tuple(range(11, -1, -1))),))

    def test_a_well_taken_twice(self):
        self.assert_missed((2,), (2,), ((0, (1, 1)),))
        self.assert_missed((1,), (2,), ((0, (0, 0)),))
        self.assert_missed((3,), (3,), ((0, (0, 1, 0)),))
        self.assert_missed((12,), (12,), ((0, tuple(range(11)) + (0,)),))
        self.assert_missed(FULL, FULL, idle(FULL)[:59] + ((59, (0, 0) + tuple(range(2, 12))),))

    def test_the_second_that_leads_there_takes_none_twice(self):
        self.assert_onto((2, 2), (2,), ((0, (1, 1)), (0, (1, 0))))
        self.assert_onto((2, 2), (2,), ((0, (1, 0)), (0, (1, 1))))
        self.assert_missed((2, 2), (2,), ((0, (0, 0)), (0, (1, 1))))

    def test_trays_that_are_not_reached(self):
        self.assert_missed((1,), (1, 1), ((0, (0,)),))
        self.assert_missed((1,), (1, 1), ((1, (0,)),))
        self.assert_missed((1, 1), (0, 1), ((1, (0,)), (1, (0,))))
        self.assert_missed(FULL, FULL, idle(FULL)[:59] + ((58, tuple(range(12))),))

    def test_crates_without_trays(self):
        self.assertEqual(onto((), (), ()), ("onto", ()))
        for other in ((0,), (1,), (0, 3), (12,), FULL):
            self.assert_missed((), other, ())

    def test_trays_without_wells(self):
        self.assert_onto((0,), (0,), ((0, ()),))
        self.assert_onto((0, 5), (0, 0), ((1, ()), (0, ())))
        self.assert_missed((0, 5), (0, 0), ((1, ()), (1, ())))


class OneToOneTest(unittest.TestCase):
    def told(self, one, way):
        handed = copy.deepcopy((one, way))
        answer = one_to_one(one, way)
        self.assertEqual((one, way), handed)
        self.assertIs(type(answer), tuple)
        return answer

    def assert_single(self, one, way):
        self.assertEqual(self.told(one, way), ("one to one",))

    def assert_merged(self, one, way):
        word, filling, other_filling = self.told(one, way)
        self.assertEqual(word, "merged")
        self.assertIs(is_filling(one, filling), True)
        self.assertIs(is_filling(one, other_filling), True)
        self.assertNotEqual(filling, other_filling)
        self.assertEqual(turned(way, filling), turned(way, other_filling))

    def assert_either(self, one, way):
        targets = [target for target, _ in way]
        taken = [set(wells) == set(range(one[tray])) for tray, (_, wells) in enumerate(way)]
        if len(set(targets)) == len(targets) and all(taken):
            self.assert_single(one, way)
        else:
            self.assert_merged(one, way)

    def test_all_ways_between_tiny_crates(self):
        for one, other in product(TINY_CRATES, repeat=2):
            for way in every_way(one, other):
                self.assert_either(one, way)

    def test_just_where_no_two_of_three_things_become_one(self):
        for one, other in product(TINY_CRATES, repeat=2):
            fillings = all_fillings(one, 3)
            for way in every_way(one, other):
                many = len({turned(way, filling) for filling in fillings})
                self.assertEqual(one_to_one(one, way)[0] == "one to one", many == len(fillings))

    def test_ways_between_large_crates(self):
        crates = LARGE_CRATES + TINY_CRATES
        for one, _, way in some_ways(51, crates, crates, times=2):
            self.assert_either(one, way)

    def test_idle_ways(self):
        for crate in LARGE_CRATES + TINY_CRATES:
            self.assert_single(crate, idle(crate))

    def test_wells_in_another_order_and_twice(self):
        self.assert_single((3,), ((0, (2, 0, 1)),))
        self.assert_single((2,), ((0, (1, 0, 1)),))
        self.assert_single((1,), ((0, (0,) * 12),))
        self.assert_single((2, 1), ((5, (1, 0)), (3, (0, 0))))

    def test_two_trays_that_lead_to_one(self):
        self.assert_merged((1, 1), ((0, (0,)), (0, (0,))))
        self.assert_merged((2, 1), ((0, (0, 1)), (0, (0, 0))))
        self.assert_merged((2, 1, 2), ((4, (0, 1)), (0, (0, 0)), (4, (1, 0))))
        self.assert_merged(FULL, idle(FULL)[:59] + ((0, tuple(range(12))),))

    def test_a_well_that_is_not_taken(self):
        self.assert_merged((1,), ((0, ()),))
        self.assert_merged((2,), ((0, (1, 1)),))
        self.assert_merged((3,), ((0, (2, 0)),))
        self.assert_merged((1, 2), ((1, (0,)), (0, (0,))))
        for left in range(12):
            wells = tuple(well for well in range(12) if well != left)
            self.assert_merged((12,), ((0, wells),))
            self.assert_merged(FULL, idle(FULL)[:59] + ((59, wells + wells[:1]),))

    def test_both_at_once(self):
        self.assert_merged((2, 2), ((0, (0,)), (0, (1,))))
        self.assert_merged((1, 2), ((0, (0,)), (0, (1,))))
        self.assert_merged((2, 1), ((0, (0,)), (0, (0,))))
        self.assert_merged((3, 3), ((0, ()), (0, ())))

    def test_crates_without_trays(self):
        self.assert_single((), ())

    def test_trays_without_wells(self):
        self.assert_single((0,), ((0, ()),))
        self.assert_single((0, 0), ((1, ()), (0, ())))
        self.assert_merged((0, 0), ((1, ()), (1, ())))
        self.assert_merged((0, 1), ((1, ()), (1, ())))


if __name__ == "__main__":
    unittest.main()
