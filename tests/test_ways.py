"""Promises 2, 3, 6 and 7: what a way is, what it makes of a filling, the idle way, one way after another."""

import copy
import random
import unittest
from itertools import product

from samples import FULL, LARGE_CRATES, NEITHER, NO_NUMBERS, THINGS, THOUSAND_FIGURES, TINY_CRATES
from samples import every_way, some_filling, some_way, some_ways
from traymap.crates import is_filling
from traymap.fillings import all_fillings, plain
from traymap.ways import after, idle, is_way, turned


class WayCase(unittest.TestCase):
    def assert_way(self, one, other, thing):
        self.assert_told(True, one, other, thing)

    def assert_no_way(self, one, other, thing):
        self.assert_told(False, one, other, thing)

    def assert_told(self, due, one, other, thing):
        handed = copy.deepcopy((one, other, thing))
        self.assertIs(is_way(one, other, thing), due, (one, other, thing))
        # By their texts, which tell a truth from a number.
        self.assertEqual(repr((one, other, thing)), repr(handed))


class IsWayTest(WayCase):
    # Each tray of ONE takes another number of wells; WAY leads from ONE to OTHER.
    ONE = (2, 0, 3, 12)
    OTHER = (1, 0, 2, 12)
    WAY = ((2, (1, 1)), (1, ()), (0, (2,)), (3, (11, 0, 10, 1, 9, 2, 8, 3, 7, 4, 6, 5)))

    def changed(self, tray, pair):
        return self.WAY[:tray] + (pair,) + self.WAY[tray + 1:]

    def test_the_way_itself(self):
        self.assert_way(self.ONE, self.OTHER, self.WAY)

    def test_all_ways_between_tiny_crates(self):
        for one, other in product(TINY_CRATES, repeat=2):
            for way in every_way(one, other):
                self.assert_way(one, other, way)

    def test_ways_between_large_crates(self):
        triples = some_ways(1, LARGE_CRATES + TINY_CRATES, LARGE_CRATES + TINY_CRATES)
        self.assertGreater(len(triples), 200)
        for one, other, way in triples:
            self.assert_way(one, other, way)

    def test_none_to_sixty_trays_of_none_to_twelve_wells(self):
        chance = random.Random(2)
        for trays in range(61):
            for wells in range(13):
                one = (wells,) * trays
                other = tuple(chance.randrange(13) for _ in range(59)) + (0,)
                self.assert_way(one, other, some_way(chance, one, other))

    def test_from_the_crate_without_trays(self):
        for other in TINY_CRATES + LARGE_CRATES:
            self.assert_way((), other, ())
            self.assert_no_way((), other, [])
            self.assert_no_way((), other, ((0, ()),))
            for thing in NEITHER:
                self.assert_no_way((), other, thing)

    def test_to_the_crate_without_trays(self):
        self.assert_way((), (), ())
        for one in ((0,), (1, 2), FULL):
            self.assert_no_way(one, (), ())
            self.assert_no_way(one, (), ((0, ()),) * len(one))
            self.assert_no_way(one, (), ((-1, ()),) * len(one))

    def test_just_the_ways_of_many_tables(self):
        numbers = (-1, 0, 1, 2)
        pairs = [(tray, taken) for tray in numbers for many in range(3) for taken in product(numbers, repeat=many)]
        tables = [table for trays in range(3) for table in product(pairs, repeat=trays)]
        for one, other in (((1, 2), (2, 0)), ((2,), (1, 2)), ((0, 1), (0, 1)), ((1, 1), (0, 0)), ((), (1,))):
            ways = set(every_way(one, other))
            self.assertTrue(ways)
            for table in tables:
                self.assertIs(is_way(one, other, table), table in ways, (one, other, table))

    def test_a_pair_is_missing_or_one_too_many(self):
        for tray in range(4):
            self.assert_no_way(self.ONE, self.OTHER, self.WAY[:tray])
            self.assert_no_way(self.ONE, self.OTHER, self.WAY[:tray] + self.WAY[tray + 1:])
            self.assert_no_way(self.ONE, self.OTHER, self.WAY + self.WAY[tray:tray + 1])
        self.assert_no_way((2, 2), (1,), ((0, (0,)),))
        self.assert_no_way((2, 2), (1,), ((0, (0,)),) * 3)
        self.assert_no_way(FULL, (12,), ((0, (3,) * 12),) * 59)
        self.assert_way(FULL, (12,), ((0, (3,) * 12),) * 60)
        self.assert_no_way(FULL, (12,), ((0, (3,) * 12),) * 61)

    def test_a_list_for_a_tuple_at_any_place(self):
        self.assert_no_way(self.ONE, self.OTHER, list(self.WAY))
        for tray, (target, wells) in enumerate(self.WAY):
            self.assert_no_way(self.ONE, self.OTHER, self.changed(tray, [target, wells]))
            self.assert_no_way(self.ONE, self.OTHER, self.changed(tray, (target, list(wells))))

    def test_pairs_that_are_none(self):
        for tray, (target, wells) in enumerate(self.WAY):
            wrong = [(target,), (wells,), (wells, target), (target, wells, wells), (target, wells, 0)]
            wrong += [(target, (wells,)), ((target, wells),), (target,) + wells]
            for pair in wrong + list(NO_NUMBERS) + list(NEITHER):
                if pair != (target, wells):
                    self.assert_no_way(self.ONE, self.OTHER, self.changed(tray, pair))

    def test_wells_that_are_no_tuple(self):
        for tray, (target, wells) in enumerate(self.WAY):
            for wrong in (None, True, False, 0, 1, len(wells), "", "0" * len(wells), [0] * len(wells)):
                self.assert_no_way(self.ONE, self.OTHER, self.changed(tray, (target, wrong)))

    def test_a_tray_that_is_none(self):
        # The trays are alike, so that the tray is all that is wrong.
        for one, other in (((1, 1), (1, 1)), ((2,), (0, 0, 0)), (FULL, (3,) * 60)):
            taken = (0,) * other[0]
            good = ((len(other) - 1, taken),) * len(one)
            self.assert_way(one, other, good)
            for wrong in NO_NUMBERS + (len(other), len(other) + 1, -len(other)):
                if wrong not in range(len(other)) or isinstance(wrong, bool):
                    self.assert_no_way(one, other, ((wrong, taken),) + good[1:])
                    self.assert_no_way(one, other, good[1:] + ((wrong, taken),))

    def test_a_well_that_is_none(self):
        for tray, (target, wells) in enumerate(self.WAY):
            beyond = self.ONE[tray]
            for place in range(len(wells)):
                for wrong in NO_NUMBERS + (beyond, beyond + 1, -beyond):
                    changed = wells[:place] + (wrong,) + wells[place + 1:]
                    self.assert_no_way(self.ONE, self.OTHER, self.changed(tray, (target, changed)))

    def test_the_wells_are_those_of_the_tray_that_leads(self):
        self.assert_way((2, 1), (1,), ((0, (1,)), (0, (0,))))
        self.assert_no_way((2, 1), (1,), ((0, (1,)), (0, (1,))))
        self.assert_no_way((0,), (1,), ((0, (0,)),))
        self.assert_no_way((1,), (2,), ((0, (0, 1)),))

    def test_a_well_more_or_fewer(self):
        for tray, (target, wells) in enumerate(self.WAY):
            self.assert_no_way(self.ONE, self.OTHER, self.changed(tray, (target, wells + (0,))))
            if wells:
                self.assert_no_way(self.ONE, self.OTHER, self.changed(tray, (target, wells[1:])))
                self.assert_no_way(self.ONE, self.OTHER, self.changed(tray, (target, ())))

    def test_the_way_of_other_crates(self):
        self.assert_no_way(self.OTHER, self.ONE, self.WAY)
        self.assert_no_way(self.ONE, self.OTHER[:3], self.WAY)
        self.assert_no_way(self.ONE[:3], self.OTHER, self.WAY)
        self.assert_way(self.ONE, self.OTHER + (5,), self.WAY)

    def test_between_what_is_no_crate(self):
        for wrong in NEITHER + ((0,) * 61, (13,), (0, True), [0]):
            for thing in ((), ((0, ()),), ((0, ()),) * 61, None):
                self.assert_no_way(wrong, (0,), thing)
                self.assert_no_way((0,), wrong, thing)
                self.assert_no_way((), wrong, thing)

    def test_of_anything(self):
        for one in ((0,), (1,), (1, 2), self.ONE, FULL):
            for other in ((0,), (1,), (1, 2), self.OTHER, FULL):
                for thing in ((),) + NEITHER:
                    self.assert_no_way(one, other, thing)


class TurnedTest(WayCase):
    def assert_turned(self, way, filling, due):
        handed = copy.deepcopy((way, filling))
        self.assertEqual(repr(turned(way, filling)), repr(due))
        self.assertEqual(repr((way, filling)), repr(handed))

    def test_in_order_in_another_order_twice_not_at_all(self):
        self.assert_turned(((0, (0, 1, 2)),), (0, ("a", "b", "c")), (0, ("a", "b", "c")))
        self.assert_turned(((0, (2, 0, 1)),), (0, ("a", "b", "c")), (0, ("c", "a", "b")))
        self.assert_turned(((3, (1, 1)),), (0, ("a", "b", "c")), (3, ("b", "b")))
        self.assert_turned(((1, ()),), (0, ("a", "b", "c")), (1, ()))
        self.assert_turned(((0, ()),), (0, ()), (0, ()))

    def test_each_tray_by_its_own_pair(self):
        way = ((2, (1, 1)), (1, ()), (0, (2,)), (1, ()))
        self.assert_turned(way, (0, (5, 6)), (2, (6, 6)))
        self.assert_turned(way, (1, ()), (1, ()))
        self.assert_turned(way, (2, (5, 6, 7)), (0, (7,)))
        self.assert_turned(way, (3, (5,)), (1, ()))

    def test_whatever_the_things_are(self):
        way = ((0, (12, 0, 0)),)
        for thing in THINGS:
            things = (thing,) + (0,) * 11 + ((thing, [thing]),)
            self.assert_turned(way, (0, things), (0, ((thing, [thing]), thing, thing)))

    def test_numbers_that_look_like_wells(self):
        self.assert_turned(((0, (0, 1, 2)),), (0, (2, 0, 1)), (0, (2, 0, 1)))
        self.assert_turned(((0, (1, 2, 0)),), (0, (1, 2, 0)), (0, (2, 0, 1)))

    def test_by_its_words(self):
        chance = random.Random(3)
        for one, other, way in some_ways(4, LARGE_CRATES + TINY_CRATES, LARGE_CRATES + TINY_CRATES):
            for source in range(len(one)):
                filling = some_filling(chance, one, source)
                tray, wells = way[source]
                due = (tray, tuple(filling[1][well] for well in wells))
                self.assert_turned(way, filling, due)
                self.assertIs(is_filling(other, due), True)

    def test_of_a_plain_filling_comes_the_pair(self):
        for one, other, way in some_ways(5, LARGE_CRATES, LARGE_CRATES):
            for tray in range(len(one)):
                self.assertEqual(turned(way, plain(one, tray)), way[tray])

    def test_things_exchanged_ahead_or_behind(self):
        chance = random.Random(6)

        def swap(thing):
            return [thing, len(repr(thing))]

        def exchanged(filling):
            return (filling[0], tuple(swap(thing) for thing in filling[1]))

        for one, other, way in some_ways(7, LARGE_CRATES + TINY_CRATES, LARGE_CRATES + TINY_CRATES):
            for tray in range(len(one)):
                filling = some_filling(chance, one, tray)
                ahead = turned(way, exchanged(filling))
                behind = exchanged(turned(way, filling))
                self.assertEqual(repr(ahead), repr(behind))


class IdleTest(WayCase):
    def test_named_edges(self):
        self.assertEqual(idle(()), ())
        self.assertEqual(idle((0,)), ((0, ()),))
        self.assertEqual(idle((2, 0, 1)), ((0, (0, 1)), (1, ()), (2, (0,))))

    def test_leaves_each_filling_as_it_is(self):
        chance = random.Random(8)
        for crate in TINY_CRATES + LARGE_CRATES:
            handed = copy.deepcopy(crate)
            way = idle(crate)
            self.assertEqual(crate, handed)
            self.assert_way(crate, crate, way)
            for tray in range(len(crate)):
                for filling in (plain(crate, tray), some_filling(chance, crate, tray)):
                    self.assertEqual(repr(turned(way, filling)), repr(filling))

    def test_the_tuple_of_the_plain_fillings(self):
        for crate in TINY_CRATES + LARGE_CRATES:
            self.assertEqual(idle(crate), tuple(plain(crate, tray) for tray in range(len(crate))))


class AfterTest(WayCase):
    CRATES = LARGE_CRATES + TINY_CRATES

    def chains(self, seed, length):
        """Crates and, from each to the next, a way."""
        chance = random.Random(seed)
        found = []
        while len(found) < 300:
            crates = [chance.choice(self.CRATES) for _ in range(length + 1)]
            ways = [some_way(chance, one, other) for one, other in zip(crates, crates[1:])]
            if None not in ways:
                found.append((crates, ways))
        return found

    def test_an_ordinary_one(self):
        first = ((1, (1, 1, 0)), (0, ()))
        second = ((1, ()), (0, (2, 0)))
        self.assertEqual(after(first, second), ((0, (0, 1)), (1, ())))

    def test_from_the_crate_without_trays(self):
        self.assertEqual(after((), ()), ())
        self.assertEqual(after((), ((0, (1, 0)),)), ())

    def test_the_first_one_is_done_ahead(self):
        swap = ((1, (0,)), (0, (0,)))
        both_to_nought = ((0, (0,)), (0, (0,)))
        self.assertEqual(after(swap, both_to_nought), both_to_nought)
        self.assertEqual(after(both_to_nought, swap), ((1, (0,)), (1, (0,))))

    def test_does_both(self):
        chance = random.Random(9)
        for (one, _, third), (first, second) in self.chains(10, 2):
            handed = copy.deepcopy((first, second))
            both = after(first, second)
            self.assertEqual((first, second), handed)
            self.assert_way(one, third, both)
            for tray in range(len(one)):
                for filling in (plain(one, tray), some_filling(chance, one, tray)):
                    due = turned(second, turned(first, filling))
                    self.assertEqual(repr(turned(both, filling)), repr(due))

    def test_all_of_tiny_crates(self):
        for one, two, three in product(((0,), (2,), (1, 2), (0, 1)), repeat=3):
            for first in every_way(one, two):
                for second in every_way(two, three):
                    both = after(first, second)
                    for filling in all_fillings(one, 2):
                        self.assertEqual(turned(both, filling), turned(second, turned(first, filling)))

    def test_three_whichever_are_put_together_first(self):
        for _, (first, second, third) in self.chains(11, 3):
            self.assertEqual(after(after(first, second), third), after(first, after(second, third)))

    def test_idle_ahead_or_behind(self):
        for (one, other), (way,) in self.chains(12, 1):
            self.assertEqual(after(idle(one), way), way)
            self.assertEqual(after(way, idle(other)), way)


class TableTest(unittest.TestCase):
    def test_unlike_ways_turn_a_filling_of_two_things_unlike(self):
        for one, other in product(TINY_CRATES, repeat=2):
            ways = every_way(one, other)
            made = {tuple(turned(way, filling) for filling in all_fillings(one, 2)) for way in ways}
            self.assertEqual(len(made), len(ways), (one, other))


class NumbersOfManyFiguresTest(unittest.TestCase):
    def test_are_moved_as_they_are(self):
        numbers = (THOUSAND_FIGURES, -THOUSAND_FIGURES + 1, THOUSAND_FIGURES - 1)
        self.assertEqual(turned(((0, (2, 0)),), (0, numbers)), (0, (numbers[2], numbers[0])))


if __name__ == "__main__":
    unittest.main()
