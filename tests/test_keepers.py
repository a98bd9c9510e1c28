"""Promises 2, 3, 17 and 24: what a keeper is, and whether it holds its rules."""

import copy
import random
import time
import unittest
from itertools import product

from samples import FRACTION_OF_A_SECOND, FULL, NEITHER, NO_NUMBERS, SINGLE, every_way, some_way
from traymap.crates import is_filling
from traymap.errors import TooBig
from traymap.keepers import held, is_keeper
from traymap.layers import packed, put, tray_rows
from traymap.ways import idle, turned


def marks(table, one):
    """The keeper of things with a mark each: of two marks one comes by the table, one is put in about a thing."""
    crate = (1,) * len(table)
    flat = tuple((table[outer][inner], (0,)) for outer, (inner,) in tray_rows(crate, crate))
    return (crate, ((one, (0,)),), flat)


def marks_or_lost(table, one, lost):
    """The same, beside so many trays without wells, ahead of the marks: what is lost stays so."""
    many = len(table)
    crate = (0,) * lost + (1,) * many
    flat = []
    for outer, row in tray_rows(crate, crate):
        if outer < lost or row[0] < lost:
            flat.append((outer if outer < lost else row[0], ()))
        else:
            flat.append((lost + table[outer - lost][row[0] - lost], (0,)))
    return (crate, ((lost + one, (0,)),), tuple(flat))


def sums(many):
    """The table that adds up numbers by their rest."""
    return [[(first + second) % many for second in range(many)] for first in range(many)]


def greater(many):
    """The table that tells the greater one."""
    return [[max(first, second) for second in range(many)] for first in range(many)]


# Two wells: of a pair of pairs the first of the first one and the second of the second one.
PAIR = ((2,), ((0, (0, 0)),), ((0, (0, 3)),))

HOLDING = (
    (SINGLE, idle(SINGLE), idle(SINGLE)),
    ((0,), ((0, ()),), ((0, ()),)),
    PAIR,
    marks(sums(2), 0),
    marks(sums(3), 0),
    marks(greater(2), 0),
    marks(greater(3), 0),
    marks_or_lost(sums(1), 0, 1),
    marks_or_lost(sums(1), 0, 2),
    marks_or_lost(sums(1), 0, 19),
    marks_or_lost(sums(2), 0, 1),
    marks_or_lost(greater(2), 0, 7),
    marks_or_lost(sums(3), 0, 2),
)

# Keepers whose three layers are no crate, each for another bound.
TOO_BIG = (
    marks(sums(4), 0),
    marks(sums(7), 0),
    marks(sums(7), 3),
    marks_or_lost(sums(1), 0, 20),
    ((3,), ((0, (0, 0, 0)),), ((0, (0, 4, 8)),)),
    ((3,), ((0, (0, 0, 0)),), ((0, (0, 0, 0)),)),
    ((2, 2), ((0, (0, 0)),), ((0, (0, 3)),) * 8),
)


def made_flat(keeper, filling):
    """What comes of a filling whose things are fillings."""
    crate, _, flat = keeper
    return turned(flat, packed(crate, crate, filling))


def put_in(keeper, thing):
    """The filling with the one thing put in."""
    return turned(keeper[1], (0, (thing,)))


def two_roads(keeper, rule, filling):
    """What comes of the filling by the two roads of the rule, by its words."""
    if rule == 0:
        return made_flat(keeper, put_in(keeper, filling)), filling
    tray, things = filling
    if rule == 1:
        return made_flat(keeper, (tray, tuple(put_in(keeper, thing) for thing in things))), filling
    inner = (tray, tuple(made_flat(keeper, thing) for thing in things))
    return made_flat(keeper, made_flat(keeper, filling)), made_flat(keeper, inner)


def fillings_with(crate, things):
    """All fillings of the crate with these things."""
    return [(tray, row) for tray, wells in enumerate(crate) for row in product(things, repeat=wells)]


def layered(crate, layers):
    """All fillings of so many layers, the innermost things 0 and 1."""
    things = [0, 1]
    for _ in range(layers):
        things = fillings_with(crate, things)
    return things


def least_broken(keeper):
    """The least rule whose roads part, None where all hold."""
    for rule, layers in enumerate((1, 1, 3)):
        for filling in layered(keeper[0], layers):
            one_road, other_road = two_roads(keeper, rule, filling)
            if one_road != other_road:
                return rule
    return None


def some_keeper(chance, crate):
    """One keeper of the crate, or None where there is none."""
    one, flat = some_way(chance, SINGLE, crate), some_way(chance, put(crate, crate), crate)
    return None if one is None or flat is None else (crate, one, flat)


class IsKeeperTest(unittest.TestCase):
    def assert_told(self, due, thing):
        handed = copy.deepcopy(thing)
        self.assertIs(is_keeper(thing), due, thing)
        self.assertEqual(repr(thing), repr(handed))

    def assert_no_keeper(self, thing):
        self.assert_told(False, thing)

    def test_keepers(self):
        for keeper in HOLDING + TOO_BIG:
            self.assert_told(True, keeper)

    def test_also_where_it_does_not_hold(self):
        self.assert_told(True, marks(sums(2), 1))
        self.assert_told(True, ((0, 0), ((0, ()),), ((1, ()), (1, ()))))
        chance = random.Random(120)
        for crate in ((1,), (2,), (3,), (1, 1), (0, 1), (1, 2), (0, 2, 1), (2, 2), (1,) * 7, (0,) * 60):
            self.assert_told(True, some_keeper(chance, crate))

    def test_all_of_tiny_crates(self):
        for crate in ((), (0,), (1,), (0, 0), (0, 1)):
            ones, flats = every_way(SINGLE, crate), every_way(put(crate, crate), crate)
            for one, flat in product(ones, flats):
                self.assert_told(True, (crate, one, flat))
                self.assert_no_keeper((crate, flat, one) if one != flat else (crate, one))

    def test_a_crate_without_trays(self):
        # Nothing can be put in: no way leads there from the crate of one tray of one well.
        for one, flat in product(((), ((0, ()),), ((0, (0,)),)), repeat=2):
            self.assert_no_keeper(((), one, flat))

    def test_lists_for_tuples(self):
        for crate, one, flat in HOLDING:
            self.assert_no_keeper([crate, one, flat])
            self.assert_no_keeper((list(crate), one, flat))
            self.assert_no_keeper((crate, list(one), flat))
            self.assert_no_keeper((crate, one, list(flat)))
            self.assert_no_keeper((crate, (list(one[0]),), flat))
            self.assert_no_keeper((crate, one, (list(flat[0]),) + flat[1:]))
            self.assert_no_keeper((crate, ((one[0][0], list(one[0][1])),), flat))
            self.assert_no_keeper((crate, one, flat[:-1] + ((flat[-1][0], list(flat[-1][1])),)))

    def test_a_part_more_or_fewer(self):
        for keeper in HOLDING:
            for wrong in (keeper[:2], keeper[1:], keeper[:1], keeper + (keeper[2],), keeper + (None,), (keeper,)):
                self.assert_no_keeper(wrong)

    def test_no_crate(self):
        for _, one, flat in HOLDING:
            for wrong in NEITHER + ((13,), (0,) * 61, (1, -1), (True,), (1, None), ("1",)):
                self.assert_no_keeper((wrong, one, flat))

    def test_a_truth_for_a_number(self):
        crate, one, flat = marks(sums(2), 0)
        self.assert_no_keeper(((1, True), one, flat))
        self.assert_no_keeper((crate, ((False, (0,)),), flat))
        self.assert_no_keeper((crate, ((0, (False,)),), flat))
        self.assert_no_keeper((crate, one, flat[:3] + ((False, (0,)),)))
        self.assert_no_keeper((crate, one, flat[:3] + ((0, (False,)),)))

    def test_a_way_that_is_none_in_one_entry(self):
        for crate, one, flat in HOLDING:
            for wrong in NO_NUMBERS + (len(crate),):
                if wrong not in range(len(crate)) or isinstance(wrong, bool):
                    self.assert_no_keeper((crate, ((wrong, one[0][1]),), flat))
                    self.assert_no_keeper((crate, one, flat[:-1] + ((wrong, flat[-1][1]),)))
                if one[0][1]:
                    self.assert_no_keeper((crate, ((one[0][0], (wrong,) + one[0][1][1:]),), flat))
            self.assert_no_keeper((crate, one + one, flat))
            self.assert_no_keeper((crate, (), flat))
            self.assert_no_keeper((crate, one, flat[1:]))
            self.assert_no_keeper((crate, one, flat + flat[:1]))
            self.assert_no_keeper((crate, ((one[0][0], one[0][1] + (0,)),), flat))
            self.assert_no_keeper((crate, ((one[0][0], (1,) * len(one[0][1])),), flat) if one[0][1] else None)
        self.assert_no_keeper(((2,), ((0, (0, 1)),), PAIR[2]))
        self.assert_no_keeper(((2,), PAIR[1], ((0, (0, 4)),)))

    def test_each_way_wrong_in_turn(self):
        for wrong in NEITHER:
            for crate, one, flat in HOLDING:
                self.assert_no_keeper((crate, wrong, flat))
                self.assert_no_keeper((crate, one, wrong))
                self.assert_no_keeper((wrong, wrong, wrong))

    def test_a_crate_that_put_in_itself_is_none(self):
        start = time.process_time()
        for crate in ((4,), (12,), (1,) * 8, (0,) * 30 + (1,), (2,) * 4, FULL):
            for flat in ((), ((0, (0,)),), ((0, (0,) * crate[0]),) * 64, idle(crate)):
                self.assert_no_keeper((crate, ((len(crate) - 1, (0,) * crate[-1]),), flat))
        self.assertLess(time.process_time() - start, FRACTION_OF_A_SECOND)

    def test_of_anything(self):
        for thing in NEITHER + ((), (0,), (1, 2, 3), ("", "", ""), (None, True, 0), [(1,), (), ()]):
            self.assert_no_keeper(thing)


class HeldTest(unittest.TestCase):
    def told(self, keeper):
        handed = copy.deepcopy(keeper)
        answer = held(keeper)
        self.assertEqual(keeper, handed)
        self.assertIs(type(answer), tuple)
        return answer

    def assert_holds(self, keeper):
        self.assertEqual(self.told(keeper), ("holds",))

    def assert_parts(self, keeper, due_rule):
        word, rule, filling = self.told(keeper)
        self.assertEqual(word, "parts")
        self.assertIs(type(rule), int)
        self.assertEqual(rule, due_rule, keeper)
        self.assert_filling(keeper[0], filling, 3 if rule == 2 else 1)
        one_road, other_road = two_roads(keeper, rule, filling)
        self.assertNotEqual(one_road, other_road)

    def assert_filling(self, crate, filling, layers):
        """It is a filling of so many layers; of three the innermost things are 0 and 1 alone."""
        self.assertIs(is_filling(crate, filling), True)
        if layers > 1:
            for thing in filling[1]:
                self.assert_filling(crate, thing, layers - 1)
                if layers == 2:
                    for innermost in thing[1]:
                        self.assertIs(type(innermost), int)
                        self.assertIn(innermost, (0, 1))

    def assert_refused(self, keeper):
        handed = copy.deepcopy(keeper)
        start = time.process_time()
        with self.assertRaises(TooBig) as caught:
            held(keeper)
        self.assertLess(time.process_time() - start, FRACTION_OF_A_SECOND)
        self.assertIs(type(caught.exception), TooBig)
        self.assertEqual(keeper, handed)

    def assert_by_its_rules(self, keeper):
        rule = least_broken(keeper)
        if rule is None:
            self.assert_holds(keeper)
        else:
            self.assert_parts(keeper, rule)
        return rule

    def test_those_that_hold(self):
        for keeper in HOLDING:
            self.assert_holds(keeper)

    def test_a_mark_put_in_that_changes_others_ahead(self):
        # Of two marks the inner one is told: so another put in about all changes nothing, for each it does.
        inner = [[0, 1], [0, 1]]
        outer = [[0, 0], [1, 1]]
        self.assert_parts(marks(outer, 0), 0)
        self.assert_parts(marks(outer, 1), 0)
        self.assert_parts(marks(inner, 0), 1)
        self.assert_parts(marks(inner, 1), 1)
        self.assert_parts(marks(sums(2), 1), 0)
        self.assert_parts(marks(sums(3), 2), 0)
        self.assert_parts(marks(greater(3), 1), 0)
        self.assert_parts(marks_or_lost(sums(2), 1, 1), 0)

    def test_a_table_in_which_it_matters_which_come_together_first(self):
        # 0 changes none, ahead or behind; (1 1) 2 is 2 2, so 1, and 1 (1 2) is 1 1, so 2.
        self.assert_parts(marks([[0, 1, 2], [1, 2, 1], [2, 2, 1]], 0), 2)
        self.assert_parts(marks([[0, 1, 2], [1, 0, 0], [2, 0, 1]], 0), 2)
        self.assert_parts(marks_or_lost([[0, 1, 2], [1, 2, 1], [2, 2, 1]], 0, 1), 2)

    def test_all_tables_of_two_marks(self):
        rules = set()
        for first, second in product(product(range(2), repeat=2), repeat=2):
            for one in range(2):
                rules.add(self.assert_by_its_rules(marks([first, second], one)))
        self.assertEqual(rules, {0, 1, None})

    def test_tables_of_three_marks(self):
        chance = random.Random(121)
        rules = []
        for _ in range(300):
            table = [[0, 1, 2]] + [[mark] + [chance.randrange(3) for _ in range(2)] for mark in (1, 2)]
            if chance.random() < 0.3:
                table[chance.randrange(3)][chance.randrange(3)] = chance.randrange(3)
            rules.append(self.assert_by_its_rules(marks(table, 0)))
        self.assertEqual(set(rules), {0, 1, 2, None})

    def test_lost_ones_beside_marks(self):
        crate, one, flat = marks_or_lost(sums(1), 0, 1)
        self.assertEqual((crate, one, flat), ((0, 1), ((1, (0,)),), ((0, ()), (0, ()), (1, (0,)))))
        for changed in every_way(put(crate, crate), crate):
            for changed_one in every_way(SINGLE, crate):
                due = (changed_one, changed) == (one, flat)
                self.assertEqual(self.assert_by_its_rules((crate, changed_one, changed)) is None, due)

    def test_what_is_lost_is_told_otherwise(self):
        crate, one, flat = marks_or_lost(sums(1), 0, 2)
        # The outer tray that is lost becomes the other one.
        self.assert_parts((crate, one, ((1, ()), (0, ())) + flat[2:]), 1)

    def test_trays_without_wells_alone(self):
        self.assert_holds(((0,), ((0, ()),), ((0, ()),)))
        for one, flat in product(every_way(SINGLE, (0, 0)), every_way((0, 0), (0, 0))):
            self.assert_parts(((0, 0), one, flat), 0)
        self.assert_parts(((0,) * 60, ((59, ()),), idle((0,) * 60)), 0)

    def test_a_tray_of_two_wells(self):
        rules = []
        for one, flat in product(every_way(SINGLE, (2,)), every_way((4,), (2,))):
            rules.append(self.assert_by_its_rules(((2,), one, flat)))
        # The pair of the first and the last alone, or none: (0, 2) and the like lose what stands ahead or behind.
        self.assertEqual(set(rules), {0, 1, None})
        self.assert_holds(PAIR)
        self.assert_parts(((2,), PAIR[1], ((0, (0, 1)),)), 1)
        self.assert_parts(((2,), PAIR[1], ((0, (0, 2)),)), 0)
        self.assert_parts(((2,), PAIR[1], ((0, (3, 0)),)), 0)

    def test_some_of_more_crates(self):
        chance = random.Random(122)
        for crate in ((1,), (0, 1), (1, 0), (0, 0, 1), (1, 1), (1, 0, 1), (1, 1, 1), (0, 2), (2, 0), (2, 1), (1, 2)):
            for _ in range(40):
                self.assert_by_its_rules(some_keeper(chance, crate))

    def test_lists_of_one_or_two_made_short(self):
        # Of lists in a list all things stand behind one another: the first two are kept, or the first and the last.
        crate, one = (1, 2), ((0, (0,)),)
        for ends, due in (((0, 1), None), ((0, -1), None), ((0, 0), 0), ((1, 0), 0), ((-1, 1), 0), ((0, 2), 0)):
            flat = []
            for wells in put(crate, crate):
                flat.append((0, (0,)) if wells == 1 else (1, tuple(min(end % wells, wells - 1) for end in ends)))
            self.assertEqual(self.assert_by_its_rules((crate, one, tuple(flat))), due)

    def test_lists_of_one_or_two_that_go_otherwise_where_both_layers_have_two(self):
        # As the first two rules want it; free are the three rows in which a list of two holds one of two.
        chance = random.Random(123)
        crate, one = (1, 2), ((0, (0,)),)
        kept = ((0, (0,)), (1, (0, 1)), (1, (0, 1)))
        rules = []
        for _ in range(80):
            rules.append(self.assert_by_its_rules((crate, one, kept + some_way(chance, (3, 3, 4), crate))))
        self.assertGreater(rules.count(2), 40)
        self.assertLessEqual(set(rules), {2, None})

    def test_too_big_ahead_of_all(self):
        for keeper in TOO_BIG:
            self.assertIs(is_keeper(keeper), True)
            self.assert_refused(keeper)
        # Just within the bounds on either side.
        self.assert_holds(marks_or_lost(sums(1), 0, 19))
        self.assert_refused(marks_or_lost(sums(1), 0, 20))
        self.assert_holds(marks(sums(3), 0))
        self.assert_refused(marks(sums(4), 0))

    def test_in_a_fraction_of_a_second(self):
        for keeper in HOLDING + (((0,) * 60, ((59, ()),), idle((0,) * 60)),):
            start = time.process_time()
            held(keeper)
            self.assertLess(time.process_time() - start, FRACTION_OF_A_SECOND)


if __name__ == "__main__":
    unittest.main()
