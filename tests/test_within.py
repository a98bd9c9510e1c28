"""Promises 2, 19 and 20: ways between crates put in one another, and three crates regrouped."""

import copy
import random
import unittest
from itertools import product

from samples import FULL, SINGLE, TINY_CRATES, every_way, some_filling, some_way, some_ways
from traymap.errors import TooBig
from traymap.layers import packed, put, tray_rows, unpacked
from traymap.ways import after, idle, is_way, turned
from traymap.within import put_way, regrouped

OUTERS = ((), (0,), (1,), (2,), (0, 1), (1, 2), (2, 0), (0, 2, 1))
INNERS = ((), (0,), (1,), (2,), (0, 0), (2, 1), (0, 3, 1))


def each_turned(inner_way, filling):
    """The filling whose things, fillings themselves, are turned by the way."""
    return (filling[0], tuple(turned(inner_way, thing) for thing in filling[1]))


class PutWayTest(unittest.TestCase):
    def assert_does_both(self, outers, inners, way, inner_way):
        handed = copy.deepcopy((outers, inners, way, inner_way))
        told = put_way(outers, inners, way, inner_way)
        self.assertEqual((outers, inners, way, inner_way), handed)
        (outer, other_outer), (inner, other_inner) = outers, inners
        self.assertIs(is_way(put(outer, inner), put(other_outer, other_inner), told), True)
        chance = random.Random(90)
        for source, row in tray_rows(outer, inner):
            filling = (source, tuple(some_filling(chance, inner, tray) for tray in row))
            made = turned(told, packed(outer, inner, filling))
            inner_last = packed(other_outer, other_inner, each_turned(inner_way, turned(way, filling)))
            inner_first = packed(other_outer, other_inner, turned(way, each_turned(inner_way, filling)))
            self.assertEqual(repr(made), repr(inner_last))
            self.assertEqual(repr(made), repr(inner_first))
        return told

    def test_an_ordinary_one(self):
        # Of the rows (0, 0), (0, 1), (1, 0), (1, 1) the second tray is kept, its wells exchanged or doubled.
        told = self.assert_does_both(
            ((2,), (1,)),
            ((2, 1), (2,)),
            ((0, (1,)),),
            ((0, (1, 0)), (0, (0, 0))),
        )
        self.assertEqual(told, ((0, (3, 2)), (0, (2, 2)), (0, (2, 1)), (0, (1, 1))))

    def test_all_ways_between_tiny_crates(self):
        crates = ((), (0,), (1,), (2,), (0, 1))
        for outer, other_outer, inner, other_inner in product(crates, repeat=4):
            for way, inner_way in product(every_way(outer, other_outer), every_way(inner, other_inner)):
                self.assert_does_both((outer, other_outer), (inner, other_inner), way, inner_way)

    def test_some_ways_between_more(self):
        outers, inners = some_ways(91, OUTERS, OUTERS), some_ways(92, INNERS, INNERS)
        done = 0
        for (outer, other_outer, way), (inner, other_inner, inner_way) in product(outers, inners):
            self.assert_does_both((outer, other_outer), (inner, other_inner), way, inner_way)
            done += 1
        self.assertGreater(done, 500)

    def test_to_and_from_the_largest(self):
        self.assert_does_both((FULL, (12,)), ((1,), (1,)), ((0, tuple(range(12))),) * 60, ((0, (0,)),))
        self.assert_does_both(((1,), (1,)), (FULL, (12,)), ((0, (0,)),), ((0, (5,) * 12),) * 60)
        self.assert_does_both(((12,), FULL), ((1,), (1,)), ((59, (11,) * 12),), ((0, (0,)),))

    def test_crates_without_trays(self):
        self.assertEqual(put_way(((), ()), ((), ()), (), ()), ())
        self.assertEqual(put_way(((), (2, 0)), ((3,), (1,)), (), ((0, (2,)),)), ())
        # Of the outer trays those without wells alone stand in the crate put together.
        self.assertEqual(put_way(((2, 0), (0, 0, 1)), ((), ()), ((0, ()), (1, ())), ()), ((1, ()),))
        self.assertEqual(put_way(((2, 0), (0, 2)), ((), (1, 1)), ((1, (1, 0)), (0, ())), ()), ((0, ()),))

    def test_idle_ways(self):
        for outer, inner in product(TINY_CRATES, repeat=2):
            told = self.assert_does_both((outer, outer), (inner, inner), idle(outer), idle(inner))
            self.assertEqual(told, idle(put(outer, inner)))

    def test_ways_done_after_one_another(self):
        chance = random.Random(93)
        done = 0
        for _ in range(2000):
            outers = [chance.choice(OUTERS) for _ in range(3)]
            inners = [chance.choice(INNERS) for _ in range(3)]
            ways = [some_way(chance, *outers[:2]), some_way(chance, *outers[1:])]
            ways += [some_way(chance, *inners[:2]), some_way(chance, *inners[1:])]
            if None not in ways:
                first, second, inner_first, inner_second = ways
                ahead = put_way(tuple(outers[:2]), tuple(inners[:2]), first, inner_first)
                behind = put_way(tuple(outers[1:]), tuple(inners[1:]), second, inner_second)
                both = after(first, second), after(inner_first, inner_second)
                self.assertEqual(after(ahead, behind), put_way(tuple(outers[::2]), tuple(inners[::2]), *both))
                done += 1
        self.assertGreater(done, 200)

    def test_the_single_crate_on_either_side(self):
        for one, other in product(TINY_CRATES, repeat=2):
            for way in every_way(one, other)[:20]:
                self.assertEqual(put_way((one, other), (SINGLE, SINGLE), way, idle(SINGLE)), way)
                self.assertEqual(put_way((SINGLE, SINGLE), (one, other), idle(SINGLE), way), way)


def three_put(first, second, third):
    """The crates put in one another either way about, or None where one of them is none by the bounds."""
    try:
        return put(first, put(second, third)), put(put(first, second), third)
    except TooBig:
        return None


class RegroupedTest(unittest.TestCase):
    def assert_regrouped(self, first, second, third):
        start, end = three_put(first, second, third)
        handed = copy.deepcopy((first, second, third))
        way = regrouped(first, second, third)
        self.assertEqual((first, second, third), handed)
        self.assertIs(is_way(start, end, way), True)
        self.assertEqual(sorted(target for target, _ in way), list(range(len(end))))
        chance = random.Random(94)
        for tray in range(len(start)):
            filling = some_filling(chance, start, tray)
            source, things = unpacked(first, put(second, third), filling)
            due = (source, tuple(unpacked(second, third, thing) for thing in things))
            told = unpacked(first, second, unpacked(put(first, second), third, turned(way, filling)))
            self.assertEqual(repr(told), repr(due))
            # No thing is moved: they stand in the order in which they stood.
            self.assertEqual(way[tray][1], tuple(range(start[tray])))
        return way

    def test_where_trays_change_their_places(self):
        # Ahead of it rows rise by a middle tray with what is in it, behind it by the middle trays first.
        way = self.assert_regrouped((2,), (0, 1), (1, 1))
        self.assertEqual([target for target, _ in way], [0, 1, 2, 3, 5, 6, 4, 7, 8])
        self.assertEqual(three_put((2,), (0, 1), (1, 1))[0], (0, 1, 1, 1, 2, 2, 1, 2, 2))
        self.assertEqual(three_put((2,), (0, 1), (1, 1))[1], (0, 1, 1, 1, 1, 2, 2, 2, 2))

    def test_all_tiny_crates(self):
        done = 0
        for first, second, third in product(TINY_CRATES, repeat=3):
            if three_put(first, second, third) is not None:
                self.assert_regrouped(first, second, third)
                done += 1
        self.assertGreater(done, 800)

    def test_crates_without_trays(self):
        self.assertEqual(self.assert_regrouped((), (), ()), ())
        self.assertEqual(self.assert_regrouped((2, 0), (), ()), ((0, ()),))
        self.assertEqual(self.assert_regrouped((2,), (1, 0), ()), ((0, ()),))
        self.assertEqual(self.assert_regrouped((), (2, 0), (1,)), ())

    def test_the_single_crate_at_each_place(self):
        for one, other in product(TINY_CRATES, repeat=2):
            crate = put(one, other)
            for three in ((SINGLE, one, other), (one, SINGLE, other), (one, other, SINGLE)):
                self.assertEqual(self.assert_regrouped(*three), idle(crate))

    def test_the_largest(self):
        for three in ((FULL, SINGLE, SINGLE), (SINGLE, FULL, SINGLE), (SINGLE, SINGLE, FULL)):
            self.assertEqual(self.assert_regrouped(*three), idle(FULL))
        self.assert_regrouped((2, 1), (0, 1), (2, 1, 0, 1, 2, 0))
        self.assert_regrouped((2,), (2,), (3, 0))
        self.assert_regrouped((0,) * 60, (2,), (6,))


if __name__ == "__main__":
    unittest.main()
