"""Promises 2, 17, 18 and 20: one crate put in another one, its rows, fillings packed and unpacked."""

import copy
import random
import unittest
from itertools import product

from samples import FULL, LARGE_CRATES, SINGLE, THINGS, TINY_CRATES, RowsCase, some_filling
from traymap.crates import is_filling
from traymap.fillings import all_fillings, how_many, plain
from traymap.layers import packed, put, tray_rows, unpacked

# Outer and inner crates beyond the tiny ones whose crate put together is just within the bounds.
JUST_WITHIN = (
    ((1,) * 30, (12, 0)),
    ((2, 1, 0, 0, 0, 0), (0, 6, 1, 2, 3, 4, 5)),
    ((0,) * 60, FULL),
    (FULL, ()),
    (FULL, (0,)),
    ((12, 6, 4, 3, 2, 1, 0) * 8, (1,)),
    ((3, 2), (4, 0, 1)),
    ((6,), (2,)),
    ((4,), (3, 0)),
)


def listed_rows(outer, inner):
    """All pairs (s, row), as they rise."""
    trays = range(len(inner))
    return [(source, row) for source, wells in enumerate(outer) for row in product(trays, repeat=wells)]


class PutTest(RowsCase):
    make = staticmethod(put)
    rows = staticmethod(tray_rows)

    def due_rows(self, one, other):
        return listed_rows(one, other)

    def assert_put(self, outer, inner):
        self.assert_made(outer, inner, tuple(sum(inner[tray] for tray in row) for _, row in listed_rows(outer, inner)))

    def test_ordinary_ones(self):
        self.assert_made((2,), (3, 1), (6, 4, 4, 2))
        self.assert_made((1, 2), (0, 5), (0, 5, 0, 5, 5, 10))
        self.assert_made((3,), (4,), (12,))
        rows = [(0, (0, 0)), (0, (0, 1)), (0, (1, 0)), (0, (1, 1)), (1, (0,)), (1, (1,))]
        self.assertEqual(tray_rows((2, 1), (3, 1)), rows)

    def test_all_tiny_crates_and_those_just_within_the_bounds(self):
        for outer, inner in list(product(TINY_CRATES, repeat=2)) + list(JUST_WITHIN):
            self.assert_put(outer, inner)

    def test_an_outer_tray_without_wells(self):
        for inner in TINY_CRATES + LARGE_CRATES:
            self.assert_made((0,), inner, (0,))
            self.assertEqual(tray_rows((0,), inner), [(0, ())])
            self.assert_made((0, 0), inner, (0, 0))

    def test_an_inner_crate_without_trays(self):
        self.assert_made((), (), ())
        self.assert_made((1,), (), ())
        self.assert_made((2, 0, 1, 0), (), (0, 0))
        self.assertEqual(tray_rows((2, 0, 1, 0), ()), [(1, ()), (3, ())])
        self.assert_made(FULL, (), ())

    def test_an_outer_crate_without_trays(self):
        for inner in TINY_CRATES + LARGE_CRATES:
            self.assert_made((), inner, ())

    def test_exactly_sixty_trays_and_one_more(self):
        for outer, inner in (
            ((1,) * 30, (0, 0)),
            ((1,) * 20, (4, 12, 0)),
            ((1,), (12,) * 60),
            ((2, 1, 0, 0, 0, 0), (1,) * 7),
            ((5, 4, 3, 2), (1, 1)),
            ((0,) * 60, FULL),
            ((12,) * 60, (1,)),
        ):
            self.assertEqual(len(listed_rows(outer, inner)), 60)
            self.assert_put(outer, inner)
            self.assert_refused(outer + (0,), inner)
            self.assert_refused((0,) + outer, inner)
        # A tray handed in beyond the bounds.
        self.assert_refused((0,) * 61, ())
        self.assert_refused((1,), (0,) * 61)

    def test_exactly_twelve_wells_and_beyond(self):
        for wells, inner_wells in ((1, 12), (2, 6), (3, 4), (4, 3), (6, 2), (12, 1)):
            self.assert_made((wells,), (inner_wells,), (12,))
            self.assert_made((wells, 0), (inner_wells,), (12, 0))
            if wells < 12:
                self.assert_refused((wells + 1,), (inner_wells,))
                self.assert_refused((0, wells + 1), (inner_wells,))
            if inner_wells < 12:
                self.assert_refused((wells,), (inner_wells + 1,))
        self.assert_made((2,), (6, 6), (12,) * 4)
        self.assert_refused((2,), (6, 7))
        self.assert_refused((1, 2), (7, 6))

    def test_a_tray_of_thirteen_wells(self):
        self.assert_refused((13,), (1,))
        self.assert_refused((1,), (13,))
        self.assert_refused((1, 0), (0, 13))
        # No row is asked for it: the tray stands in none.
        self.assert_made((0,), (13,), (0,))

    def test_far_too_big(self):
        for outer, inner in product(LARGE_CRATES, repeat=2):
            trays = how_many(outer, len(inner))
            if trays > 60 or max(outer) * max(inner) > 12:
                self.assert_refused(outer, inner)
            else:
                self.assert_put(outer, inner)
        self.assert_refused((12,), (0, 0))
        self.assert_refused((12,), FULL)
        self.assert_refused(FULL, (0, 0))
        self.assert_refused(FULL, FULL)

    def test_as_many_fillings_as_the_outer_has_of_the_inner_ones(self):
        for outer, inner in list(product(TINY_CRATES, repeat=2)) + list(JUST_WITHIN):
            for number in (0, 1, 2, 3, 1000):
                inner_many = how_many(inner, number)
                due = sum(inner_many ** wells for wells in outer)
                self.assertEqual(how_many(put(outer, inner), number), due)
                if inner_many <= 1000:
                    self.assertEqual(how_many(outer, inner_many), due)


class PackedTest(unittest.TestCase):
    def assert_packed(self, outer, inner, filling, due):
        handed = copy.deepcopy((outer, inner, filling))
        told = packed(outer, inner, filling)
        self.assertEqual(repr(told), repr(due))
        self.assertIs(is_filling(put(outer, inner), told), True)
        self.assertEqual(repr(unpacked(outer, inner, told)), repr(filling))
        self.assertEqual(repr((outer, inner, filling)), repr(handed))
        self.assertEqual(repr(told), repr(due))

    def assert_packed_by_its_row(self, outer, inner, filling):
        source, fillings = filling
        row = tuple(tray for tray, _ in fillings)
        place = listed_rows(outer, inner).index((source, row))
        things = tuple(thing for _, inner_things in fillings for thing in inner_things)
        self.assert_packed(outer, inner, filling, (place, things))

    def test_ordinary_ones(self):
        outer, inner = (1, 2), (0, 2, 1)
        self.assert_packed(outer, inner, (0, ((1, ("a", "b")),)), (1, ("a", "b")))
        self.assert_packed(outer, inner, (1, ((0, ()), (2, ("a",)))), (5, ("a",)))
        self.assert_packed(outer, inner, (1, ((1, ("a", "b")), (2, ("c",)))), (8, ("a", "b", "c")))
        self.assert_packed(outer, inner, (1, ((2, ("c",)), (1, ("a", "b")))), (10, ("c", "a", "b")))

    def test_all_fillings_of_two_things(self):
        outers, inners = ((), (0,), (1,), (2,), (0, 1), (1, 2), (2, 0)), ((), (0,), (2,), (1, 1), (1, 2), (0, 2, 1))
        for outer, inner in product(outers, inners):
            things = all_fillings(inner, 2)
            fillings = [(source, row) for source, wells in enumerate(outer) for row in product(things, repeat=wells)]
            made = set()
            for filling in fillings:
                self.assert_packed_by_its_row(outer, inner, filling)
                made.add(packed(outer, inner, filling))
            self.assertEqual(sorted(made), all_fillings(put(outer, inner), 2))

    def test_whatever_the_things_are(self):
        chance = random.Random(80)
        for outer, inner in list(product(TINY_CRATES, repeat=2)) + list(JUST_WITHIN):
            for source, row in tray_rows(outer, inner):
                fillings = tuple(some_filling(chance, inner, tray) for tray in row)
                self.assert_packed_by_its_row(outer, inner, (source, fillings))

    def test_each_sort_of_thing(self):
        for thing in THINGS:
            self.assert_packed((1, 2), (0, 1), (1, ((1, (thing,)), (0, ()))), (4, (thing,)))
            self.assert_packed((1,), (2,), (0, ((0, ([thing], (thing,))),)), (0, ([thing], (thing,))))

    def test_things_that_look_like_fillings(self):
        self.assert_packed((1,), (1,), (0, ((0, ((0, (1,)),)),)), (0, ((0, (1,)),)))
        self.assert_packed((2,), (1, 0), (0, ((0, ((1, ()),)), (1, ()))), (1, ((1, ()),)))

    def test_trays_without_wells(self):
        self.assert_packed((0,), (), (0, ()), (0, ()))
        self.assert_packed((3, 0), (), (1, ()), (0, ()))
        self.assert_packed((3, 0, 2, 0), (), (3, ()), (1, ()))
        self.assert_packed((0, 2), (0,), (0, ()), (0, ()))
        self.assert_packed((0, 2), (0,), (1, ((0, ()), (0, ()))), (1, ()))
        self.assert_packed((12,), (0,), (0, ((0, ()),) * 12), (0, ()))
        self.assert_packed((2,), (0, 0), (0, ((1, ()), (0, ()))), (2, ()))

    def test_the_plain_filling_of_each_tray(self):
        chance = random.Random(81)
        for outer, inner in list(product(TINY_CRATES, repeat=2)) + list(JUST_WITHIN):
            crate = put(outer, inner)
            for tray, (source, row) in enumerate(tray_rows(outer, inner)):
                for filling in (plain(crate, tray), some_filling(chance, crate, tray)):
                    handed = copy.deepcopy(filling)
                    told = unpacked(outer, inner, filling)
                    self.assertEqual(repr(filling), repr(handed))
                    self.assertIs(is_filling(outer, told), True)
                    self.assertEqual(told[0], source)
                    self.assertTrue(all(is_filling(inner, thing) is True for thing in told[1]))
                    self.assertEqual(tuple(thing[0] for thing in told[1]), row)
                    self.assertEqual(repr(packed(outer, inner, told)), repr(filling))

    def test_unpacked_ones(self):
        self.assertEqual(unpacked((2,), (3, 1), (1, (0, 1, 2, 3))), (0, ((0, (0, 1, 2)), (1, (3,)))))
        self.assertEqual(unpacked((2,), (3, 1), (2, (0, 1, 2, 3))), (0, ((1, (0,)), (0, (1, 2, 3)))))
        self.assertEqual(unpacked((2, 0), (0, 1), (4, ())), (1, ()))


class SingleTest(unittest.TestCase):
    def test_is_that_crate(self):
        for crate in TINY_CRATES + LARGE_CRATES:
            self.assertEqual(put(crate, SINGLE), crate)
            self.assertEqual(put(SINGLE, crate), crate)
            self.assertEqual(tray_rows(crate, SINGLE), [(tray, (0,) * wells) for tray, wells in enumerate(crate)])
            self.assertEqual(tray_rows(SINGLE, crate), [(0, (tray,)) for tray in range(len(crate))])

    def test_packed_goes_by_the_one_thing(self):
        chance = random.Random(82)
        for crate in TINY_CRATES + LARGE_CRATES:
            for tray in range(len(crate)):
                filling = some_filling(chance, crate, tray)
                about_all = (0, (filling,))
                about_each = (tray, tuple((0, (thing,)) for thing in filling[1]))
                self.assertEqual(repr(packed(SINGLE, crate, about_all)), repr(filling))
                self.assertEqual(repr(unpacked(SINGLE, crate, filling)), repr(about_all))
                self.assertEqual(repr(packed(crate, SINGLE, about_each)), repr(filling))
                self.assertEqual(repr(unpacked(crate, SINGLE, filling)), repr(about_each))


if __name__ == "__main__":
    unittest.main()
