"""Promises 2, 3, 17, 22 and 23: a crate raised to another one, and the ways out of products that go into it."""

import copy
import random
import unittest
from itertools import product

from samples import FULL, LARGE_CRATES, TINY_CRATES, RowsCase, every_way, some_filling, some_way
from traymap.counting import ways_many
from traymap.errors import TooBig
from traymap.fillings import how_many
from traymap.powers import from_power, into_power, out_of_power, power, power_rows
from traymap.products import multiplied, paired_way, to_left, to_right
from traymap.ways import after, idle, is_way, turned

SMALL = ((), (0,), (1,), (2,), (0, 0), (0, 1), (1, 1), (2, 0), (1, 2))

# Upper and lower crates of which the power has exactly 60 trays.
SIXTY = (
    ((0,) * 60, (5,)),
    ((12,) * 60, (0,)),
    ((1,) * 5, (11,)),
    ((2, 1, 0, 0, 0, 0), (6,)),
    ((1, 0), (8, 4)),
    ((0, 1), (3, 1, 2)),
    ((1,) * 30, (1,)),
)

# And those of which one tray has exactly 12 wells.
TWELVE = (
    ((12,), (0,)),
    ((1,), (0,) * 12),
    ((3,), (0,) * 4),
    ((0, 12), (0,)),
    ((6,), (0, 0)),
    ((4, 1), (0, 0, 0)),
)


def choices(upper, wells):
    """All pairs (e, wells) for a tray with so many wells, as they rise."""
    return [(tray, taken) for tray, many in enumerate(upper) for taken in product(range(-1, wells), repeat=many)]


def rows_many(upper, lower):
    """How many rows the power has."""
    many = 1
    for wells in lower:
        many *= sum((wells + 1) ** own for own in upper)
    return many


def within(make, *crates):
    """Whether what is made of the crates is one by the bounds."""
    try:
        make(*crates)
    except TooBig:
        return False
    return True


class PowerTest(RowsCase):
    make = staticmethod(power)
    rows = staticmethod(power_rows)

    def due_rows(self, one, other):
        return list(product(*[choices(one, wells) for wells in other]))

    def due_wells(self, upper, lower):
        return tuple(sum(taken.count(-1) for _, taken in row) for row in self.due_rows(upper, lower))

    def assert_either(self, upper, lower):
        if rows_many(upper, lower) > 60 or max(self.due_wells(upper, lower), default=0) > 12:
            self.assert_refused(upper, lower)
        else:
            self.assert_made(upper, lower, self.due_wells(upper, lower))

    def test_ordinary_ones(self):
        self.assert_made((1,), (1,), (1, 0))
        self.assertEqual(power_rows((1,), (1,)), [((0, (-1,)),), ((0, (0,)),)])
        self.assert_made((2,), (1,), (2, 1, 1, 0))
        self.assertEqual(
            power_rows((2,), (1,)),
            [((0, (-1, -1)),), ((0, (-1, 0)),), ((0, (0, -1)),), ((0, (0, 0)),)],
        )
        self.assert_made((1, 0), (0, 1), (2, 1, 1, 1, 0, 0))
        self.assertEqual(power_rows((1, 0), (0, 1))[1:4], [
            ((0, (-1,)), (0, (0,))),
            ((0, (-1,)), (1, ())),
            ((1, ()), (0, (-1,))),
        ])

    def test_all_tiny_crates(self):
        for upper, lower in product(TINY_CRATES + ((4,), (0, 0, 0), (3, 1), (0, 4)), repeat=2):
            self.assert_either(upper, lower)

    def test_large_crates(self):
        for crate, large in product(TINY_CRATES, LARGE_CRATES):
            self.assert_either(crate, large)
            self.assert_either(large, crate)
        for upper, lower in product(LARGE_CRATES, repeat=2):
            self.assert_either(upper, lower)

    def test_a_lower_crate_without_trays(self):
        for upper in TINY_CRATES + LARGE_CRATES:
            self.assert_made(upper, (), (0,))
            self.assertEqual(power_rows(upper, ()), [()])

    def test_an_upper_crate_without_trays(self):
        for lower in TINY_CRATES + LARGE_CRATES:
            if lower:
                self.assert_made((), lower, ())
                self.assertEqual(power_rows((), lower), [])
        self.assert_made((), (), (0,))

    def test_trays_without_wells(self):
        self.assert_made((0,), FULL, (0,))
        self.assertEqual(power_rows((0,), FULL), [((0, ()),) * 60])
        self.assert_made((0, 0), (7, 0), (0,) * 4)
        self.assert_made((3, 0, 5), (0,), (3, 0, 5))

    def test_exactly_sixty_rows_and_beyond(self):
        for upper, lower in SIXTY:
            self.assertEqual(rows_many(upper, lower), 60)
            self.assert_made(upper, lower, self.due_wells(upper, lower))
            self.assert_refused(upper + (0,), lower)
            self.assert_refused((0,) + upper, lower)
            self.assert_refused(upper + (1,), lower)
            self.assert_refused(upper, lower + (1,))
        # One row more than 60.
        self.assertEqual(rows_many((2, 1, 0, 0, 0, 0, 0), (6,)), 61)
        self.assert_refused((2, 1, 0, 0, 0, 0, 0), (6,))

    def test_exactly_twelve_open_wells_and_beyond(self):
        for upper, lower in TWELVE:
            self.assertEqual(max(self.due_wells(upper, lower)), 12)
            self.assert_made(upper, lower, self.due_wells(upper, lower))
            self.assert_refused(upper, lower + (0,))
            self.assert_refused(upper, (0,) + lower)
        self.assertEqual(self.due_wells((1,), (0,) * 13), (13,))
        self.assert_refused((1,), (0,) * 13)
        self.assertEqual(max(self.due_wells((13, 0), (0,))), 13)
        self.assert_refused((13, 0), (0,))
        self.assert_refused((7,), (0, 0))
        self.assert_refused((12,), (0, 0))
        self.assert_refused((12,), (0,) * 60)

    def test_far_too_big(self):
        self.assert_refused(FULL, FULL)
        self.assert_refused((12,), (12,))
        self.assert_refused((1, 1), (0,) * 60)
        self.assert_refused((0, 0), FULL)

    def test_as_many_fillings_as_the_product(self):
        pairs = [pair for pair in product(TINY_CRATES, repeat=2) if within(power, *pair)]
        self.assertGreater(len(pairs), 80)
        for upper, lower in pairs + list(SIXTY) + list(TWELVE):
            crate = power(upper, lower)
            for number in (0, 1, 2, 3, 7, 988, 1000):
                due = 1
                for wells in lower:
                    due *= how_many(upper, number + wells)
                self.assertEqual(how_many(crate, number), due, (upper, lower, number))


def some_product_ways(most=40):
    """Tuples of crates one, lower, upper and ways from the product of the first two to the third."""
    chance = random.Random(110)
    for one, lower, upper in product(SMALL, repeat=3):
        if within(power, upper, lower):
            start = multiplied(one, lower)
            if ways_many(start, upper) <= most:
                yield one, lower, upper, every_way(start, upper)
            else:
                yield one, lower, upper, [some_way(chance, start, upper) for _ in range(most)]


class IntoPowerTest(unittest.TestCase):
    def test_an_ordinary_one(self):
        # The product has the trays 4 and 2: two wells of the one crate, then those of the lower one.
        one, lower, upper = (2,), (2, 0), (2, 1)
        way = ((0, (3, 1)), (1, (0,)))
        told = into_power(one, lower, (2, 1), way)
        self.assertEqual(told[0][1], (1, 0))
        rows = list(product(choices(upper, 2), choices(upper, 0)))
        self.assertEqual(rows[told[0][0]], ((0, (1, -1)), (1, (-1,))))
        self.assertEqual(out_of_power(one, lower, upper, told), way)

    def test_ways_that_undo_one_another(self):
        done = 0
        for one, lower, upper, ways in some_product_ways():
            crate = power(upper, lower)
            for way in ways:
                handed = copy.deepcopy((one, lower, upper, way))
                told = into_power(one, lower, upper, way)
                self.assertIs(is_way(one, crate, told), True)
                self.assertEqual(out_of_power(one, lower, upper, told), way)
                self.assertEqual((one, lower, upper, way), handed)
                done += 1
        self.assertGreater(done, 3000)

    def test_back_and_into_it_again(self):
        chance = random.Random(111)
        for one, lower, upper, _ in some_product_ways(0):
            crate = power(upper, lower)
            for _ in range(20 if ways_many(one, crate) else 0):
                way = some_way(chance, one, crate)
                handed = copy.deepcopy((one, lower, upper, way))
                told = out_of_power(one, lower, upper, way)
                self.assertIs(is_way(multiplied(one, lower), upper, told), True)
                self.assertEqual(into_power(one, lower, upper, told), way)
                self.assertEqual((one, lower, upper, way), handed)

    def test_each_way_into_the_power_comes_of_just_one(self):
        done = 0
        for one, lower, upper, ways in some_product_ways(200):
            crate = power(upper, lower)
            many = ways_many(multiplied(one, lower), upper)
            self.assertEqual(many, ways_many(one, crate))
            if many <= 200:
                made = {into_power(one, lower, upper, way) for way in ways}
                self.assertEqual(sorted(made), every_way(one, crate))
                done += 1
        self.assertGreater(done, 150)

    def test_row_by_row(self):
        for one, lower, upper, ways in some_product_ways(10):
            rows = power_rows(upper, lower)
            for way in ways:
                told = into_power(one, lower, upper, way)
                for tray, (place, own) in enumerate(told):
                    taken = []
                    for at, (target, wells) in enumerate(rows[place]):
                        other_target, other_wells = way[tray * len(lower) + at]
                        self.assertEqual(target, other_target)
                        for well, other_well in zip(wells, other_wells, strict=True):
                            self.assertEqual(well, max(-1, other_well - one[tray]))
                            taken += [other_well] if well == -1 else []
                    self.assertEqual(own, tuple(taken))

    def test_crates_without_trays(self):
        self.assertEqual(into_power((), (), (), ()), ())
        self.assertEqual(into_power((), (2,), (1,), ()), ())
        self.assertEqual(into_power((3, 0), (), (1,), ()), ((0, ()), (0, ())))
        self.assertEqual(into_power((3, 0), (), (), ()), ((0, ()), (0, ())))
        self.assertEqual(into_power((), (1,), (), ()), ())
        self.assertEqual(out_of_power((), (), (), ()), ())
        self.assertEqual(out_of_power((), (2,), (1,), ()), ())
        self.assertEqual(out_of_power((3, 0), (), (1,), ((0, ()), (0, ()))), ())
        self.assertEqual(out_of_power((3, 0), (), (), ((0, ()), (0, ()))), ())

    def test_into_the_largest_powers(self):
        chance = random.Random(112)
        for upper, lower in SIXTY + TWELVE:
            crate = power(upper, lower)
            for one in ((0,), (1,), (4,), (1, 2), (0, 4)):
                if ways_many(one, crate) and within(multiplied, one, lower):
                    way = some_way(chance, one, crate)
                    told = out_of_power(one, lower, upper, way)
                    self.assertIs(is_way(multiplied(one, lower), upper, told), True)
                    self.assertEqual(into_power(one, lower, upper, told), way)

    def test_a_way_done_ahead(self):
        chance = random.Random(113)
        done = 0
        for one, lower, upper, ways in some_product_ways(3):
            for start in SMALL:
                ahead = some_way(chance, start, one)
                if ahead is not None:
                    both = paired_way(one, lower, after(to_left(start, lower), ahead), to_right(start, lower))
                    for way in ways:
                        told = into_power(start, lower, upper, after(both, way))
                        self.assertEqual(told, after(ahead, into_power(one, lower, upper, way)))
                        done += 1
        self.assertGreater(done, 1000)


class FromPowerTest(unittest.TestCase):
    PAIRS = [pair for pair in product(TINY_CRATES, repeat=2) if within(power, *pair)]

    def test_an_ordinary_one(self):
        # The rows are ((0, (-1,)),) and ((0, (0,)),), so the power (1, 0), and the product (2, 1).
        self.assertEqual(from_power((1,), (1,)), ((0, (0,)), (0, (0,))))
        # The rows of ((-1, -1), (-1, 0), (0, -1), (0, 0)): the power (2, 1, 1, 0), the product (3, 2, 2, 1).
        self.assertEqual(from_power((2,), (1,)), ((0, (0, 1)), (0, (0, 1)), (0, (1, 0)), (0, (0, 0))))

    def test_what_the_idle_way_goes_back_to(self):
        done = 0
        for upper, lower in self.PAIRS:
            handed = copy.deepcopy((upper, lower))
            told = from_power(upper, lower)
            self.assertEqual((upper, lower), handed)
            crate = power(upper, lower)
            self.assertEqual(told, out_of_power(crate, lower, upper, idle(crate)))
            if within(multiplied, crate, lower):
                self.assertIs(is_way(multiplied(crate, lower), upper, told), True)
                self.assertEqual(into_power(crate, lower, upper, told), idle(crate))
                done += 1
        self.assertGreater(done, 70)

    def test_crates_without_trays(self):
        self.assertEqual(from_power((), ()), ())
        self.assertEqual(from_power((2, 1), ()), ())
        self.assertEqual(from_power((), (2, 1)), ())

    def test_both_fillings_come_to_what_the_way_makes_of_them(self):
        chance = random.Random(114)
        for one, lower, upper, ways in some_product_ways(5):
            back = from_power(upper, lower)
            for way in ways:
                told = into_power(one, lower, upper, way)
                for first, second in product(range(len(one)), range(len(lower))):
                    filling, other_filling = some_filling(chance, one, first), some_filling(chance, lower, second)
                    due = turned(way, (first * len(lower) + second, filling[1] + other_filling[1]))
                    tray, things = turned(told, filling)
                    made = turned(back, (tray * len(lower) + second, things + other_filling[1]))
                    self.assertEqual(repr(made), repr(due))

    def test_each_row_looked_up(self):
        for upper, lower in self.PAIRS:
            told = from_power(upper, lower)
            for place, row in enumerate(power_rows(upper, lower)):
                wells = sum(taken.count(-1) for _, taken in row)
                left = list(range(wells))
                for at, (tray, taken) in enumerate(row):
                    due = tuple(left.pop(0) if well == -1 else wells + well for well in taken)
                    self.assertEqual(told[place * len(lower) + at], (tray, due))


if __name__ == "__main__":
    unittest.main()
