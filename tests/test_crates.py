"""Promises 2 and 4: what a crate is, what a filling of a crate is."""

import copy
import unittest

from samples import NEITHER, THOUSAND_FIGURES
from traymap.crates import is_crate, is_filling


class CrateTest(unittest.TestCase):
    def assert_crate(self, thing):
        before = copy.deepcopy(thing)
        self.assertIs(is_crate(thing), True, thing)
        self.assertEqual(thing, before)

    def assert_no_crate(self, thing):
        before = copy.deepcopy(thing)
        self.assertIs(is_crate(thing), False, thing)
        self.assertEqual(thing, before)

    def test_without_trays(self):
        self.assert_crate(())

    def test_one_to_sixty_trays(self):
        for trays in range(1, 61):
            for wells in (0, 1, 7, 12):
                self.assert_crate((wells,) * trays)

    def test_each_number_of_wells(self):
        for wells in range(13):
            self.assert_crate((wells,))
        self.assert_crate(tuple(range(13)))

    def test_more_than_sixty_trays(self):
        for trays in (61, 62, 100, 1000):
            self.assert_no_crate((0,) * trays)
            self.assert_no_crate((12,) * trays)

    def test_wrong_numbers_of_wells(self):
        for wrong in (13, 14, 100, -1, -2, -12, THOUSAND_FIGURES, -THOUSAND_FIGURES):
            self.assert_wrong_part(wrong)

    def test_what_is_no_number_of_wells(self):
        for wrong in (True, False, None, "", "1", "a", (), (1,), (1, 2), [], [1]):
            self.assert_wrong_part(wrong)

    def assert_wrong_part(self, wrong):
        self.assert_no_crate((wrong,))
        self.assert_no_crate((wrong, 1, 2))
        self.assert_no_crate((0, wrong, 12))
        self.assert_no_crate((1, 2, wrong))
        self.assert_no_crate((3,) * 59 + (wrong,))

    def test_a_list_for_the_tuple(self):
        for crate in ((), (0,), (1, 2), (12,) * 60):
            self.assert_no_crate(list(crate))

    def test_of_anything(self):
        for thing in NEITHER:
            self.assert_no_crate(thing)


class FillingTest(unittest.TestCase):
    CRATE = (0, 1, 2, 12)

    def assert_filling(self, crate, thing):
        before = copy.deepcopy((crate, thing))
        self.assertIs(is_filling(crate, thing), True, (crate, thing))
        self.assertEqual((crate, thing), before)

    def assert_no_filling(self, crate, thing):
        before = copy.deepcopy((crate, thing))
        self.assertIs(is_filling(crate, thing), False, (crate, thing))
        self.assertEqual((crate, thing), before)

    def test_each_tray(self):
        self.assert_filling(self.CRATE, (0, ()))
        self.assert_filling(self.CRATE, (1, (5,)))
        self.assert_filling(self.CRATE, (2, (5, 5)))
        self.assert_filling(self.CRATE, (3, tuple(range(12))))

    def test_the_bounds(self):
        crate = (12,) * 60
        self.assert_filling(crate, (0, (0,) * 12))
        self.assert_filling(crate, (59, (0,) * 12))
        self.assert_no_filling(crate, (60, (0,) * 12))

    def test_whatever_the_things_are(self):
        things = (0, -1, THOUSAND_FIGURES, "", "a", True, False, None)
        things += ((), (1, (2,)), [], [1, [2]], ((((((),),),),),), [[[[[[]]]]]])
        for thing in things:
            self.assert_filling((1,), (0, (thing,)))
            self.assert_filling((0, 3), (1, (thing, 0, thing)))

    def test_things_that_are_fillings(self):
        self.assert_filling((2,), (0, ((0, ()), (1, (0,)))))

    def test_one_thing_more_or_fewer(self):
        for tray, wells in enumerate(self.CRATE):
            self.assert_no_filling(self.CRATE, (tray, (0,) * (wells + 1)))
            if wells:
                self.assert_no_filling(self.CRATE, (tray, (0,) * (wells - 1)))

    def test_things_that_are_no_tuple(self):
        for tray, wells in enumerate(self.CRATE):
            for things in ([0] * wells, "a" * wells, wells, None, True, False):
                self.assert_no_filling(self.CRATE, (tray, things))

    def test_no_pair(self):
        for tray, wells in enumerate(self.CRATE):
            things = (0,) * wells
            self.assert_no_filling(self.CRATE, [tray, things])
            self.assert_no_filling(self.CRATE, (tray,))
            self.assert_no_filling(self.CRATE, (things,))
            self.assert_no_filling(self.CRATE, (tray, things, 0))
            self.assert_no_filling(self.CRATE, (tray, things, things))
            self.assert_no_filling(self.CRATE, (things, tray))

    def test_the_pair_of_two_pairs_is_no_filling(self):
        self.assert_no_filling((0,), ((0, ()), ()))

    def test_trays_that_are_none(self):
        crate = (1, 1)
        wrong = (2, 3, 100, THOUSAND_FIGURES, -1, -2, -3, -THOUSAND_FIGURES)
        wrong += (True, False, None, "", "0", "1", (), (0,), [], [0])
        for tray in wrong:
            self.assert_no_filling(crate, (tray, (0,)))

    def test_the_crate_without_trays(self):
        for thing in ((0, ()), (-1, ()), (0, (0,)), ()) + NEITHER:
            self.assert_no_filling((), thing)

    def test_of_what_is_no_crate(self):
        for crate in NEITHER + ((0,) * 61, (13,), (0, True), [0]):
            for thing in ((0, ()), (0, (0,)), (0, (0,) * 13), (), None):
                self.assert_no_filling(crate, thing)

    def test_of_anything(self):
        for crate in ((0,), (1,), (1, 2), self.CRATE, (12,) * 60):
            for thing in ((),) + NEITHER:
                self.assert_no_filling(crate, thing)


if __name__ == "__main__":
    unittest.main()
