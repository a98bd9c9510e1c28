"""Promise 3: all of the program held against each other, for small crates."""

import random
import unittest
from itertools import product

from samples import SINGLE, TINY_CRATES, every_way, some_way
from traymap.alike import crates_alike, parting
from traymap.counting import number_of, way_at, ways_many
from traymap.desk import Desk
from traymap.errors import TooBig
from traymap.fillings import all_fillings, how_many
from traymap.keepers import held, is_keeper
from traymap.layers import put
from traymap.parts import keeps_trays, keeps_wells, parts
from traymap.powers import from_power, into_power, out_of_power, power
from traymap.products import multiplied, paired_way, to_left, to_right
from traymap.reach import one_to_one, onto
from traymap.reading import read_off
from traymap.sums import from_left, from_right, joined, joined_way
from traymap.texts import read_crate, read_way, show_crate, show_way
from traymap.ways import after, idle, is_way, turned
from traymap.within import put_way

SMALL = ((), (0,), (1,), (2,), (0, 0), (0, 1), (1, 1), (2, 0))


def all_ways():
    """All ways between any two tiny crates, with these."""
    for one, other in product(TINY_CRATES, repeat=2):
        for way in every_way(one, other):
            yield one, other, way


def made(build):
    """The crate that is built, None where one on the way there is none by the bounds."""
    try:
        return build()
    except TooBig:
        return None


class WaysTest(unittest.TestCase):
    def test_as_many_and_each_with_one_number(self):
        for one, other in product(TINY_CRATES, repeat=2):
            ways = every_way(one, other)
            due = 1
            for wells in one:
                due *= len(all_fillings(other, wells))
            self.assertEqual(ways_many(one, other), due)
            self.assertEqual(len(ways), due)
            self.assertEqual([way_at(one, other, number) for number in range(due)], ways)
            self.assertEqual([number_of(one, other, way) for way in ways], list(range(due)))

    def test_a_way_is_its_table(self):
        for one, other in product(TINY_CRATES, repeat=2):
            fillings = all_fillings(one, 2)
            tables = {way: [turned(way, filling) for filling in fillings] for way in every_way(one, other)}
            for way, other_way in product(tables, repeat=2):
                filling = parting(one, way, other_way)
                self.assertEqual(filling is None, tables[way] == tables[other_way])
                self.assertEqual(filling is None, way == other_way)
                if filling is not None:
                    self.assertIn(filling, fillings)
                    self.assertNotEqual(turned(way, filling), turned(other_way, filling))

    def test_what_comes_of_plain_fillings_and_texts_is_the_way_again(self):
        for one, other, way in all_ways():
            self.assertEqual(read_off(one, other, [turned(way, filling) for filling in idle(one)]), way)
            self.assertEqual(read_way(read_crate(show_crate(one)), read_crate(show_crate(other)), show_way(way)), way)

    def test_onto_and_one_to_one_by_what_comes_of_fillings(self):
        for one, other, way in all_ways():
            fillings = all_fillings(one, 3)
            reached = {turned(way, filling) for filling in fillings}
            self.assertEqual(onto(one, other, way)[0] == "onto", reached == set(all_fillings(other, 3)))
            self.assertEqual(one_to_one(one, way)[0] == "one to one", len(reached) == len(fillings))

    def test_onto_and_one_to_one_together_are_undone(self):
        for one, other, way in all_ways():
            if onto(one, other, way)[0] == "onto" and one_to_one(one, way)[0] == "one to one":
                self.assertEqual(crates_alike(one, other)[0], "alike")
                backs = [back for back in every_way(other, one) if after(way, back) == idle(one)]
                self.assertEqual([after(back, way) for back in backs], [idle(other)])

    def test_the_ways_of_crates_alike_are_both(self):
        for one, other in product(TINY_CRATES + ((1, 0), (0, 2), (2, 1), (1, 2, 0)), repeat=2):
            answer = crates_alike(one, other)
            if answer[0] == "alike":
                for start, end, way in ((one, other, answer[1]), (other, one, answer[2])):
                    self.assertEqual(onto(start, end, way)[0], "onto")
                    self.assertEqual(one_to_one(start, way)[0], "one to one")
                    self.assertIs(keeps_wells(start, way), True)


class PartsTest(unittest.TestCase):
    def test_in_one_form_alone(self):
        # As many forms as ways, and each way has one: so there is none beside it.
        for one, other in product(TINY_CRATES, repeat=2):
            forms = set()
            for middle in product(range(4), repeat=len(one)):
                firsts = [way for way in every_way(one, middle) if keeps_trays(way)]
                seconds = [way for way in every_way(middle, other) if keeps_wells(middle, way)]
                forms.update(product((middle,), firsts, seconds))
            self.assertEqual({parts(one, other, way) for way in every_way(one, other)}, forms)
            self.assertEqual(len(forms), ways_many(one, other))

    def test_a_way_is_onto_or_one_to_one_by_its_parts(self):
        for one, other, way in all_ways():
            middle, first, second = parts(one, other, way)
            single = one_to_one(one, way)[0] == "one to one"
            both = one_to_one(one, first)[0] == "one to one" and one_to_one(middle, second)[0] == "one to one"
            self.assertEqual(both, single)


class SumsProductsPowersTest(unittest.TestCase):
    def assert_alike(self, *builds):
        """All of them are alike, where they are crates; tells whether they are."""
        crates = [made(build) for build in builds]
        if None in crates:
            return 0
        for one, other in product(crates, repeat=2):
            answer = crates_alike(one, other)
            self.assertEqual(answer[0], "alike", (one, other))
            self.assertEqual(after(answer[1], answer[2]), idle(one))
        for number in (0, 1, 2, 3, 1000):
            self.assertEqual(len({how_many(crate, number) for crate in crates}), 1)
        return 1

    def test_crates_alike_by_sums_and_products(self):
        done = 0
        for a, b, c in product(SMALL, repeat=3):
            done += self.assert_alike(lambda: joined(a, b), lambda: joined(b, a))
            done += self.assert_alike(lambda: multiplied(a, b), lambda: multiplied(b, a))
            done += self.assert_alike(lambda: joined(joined(a, b), c), lambda: joined(a, joined(b, c)))
            done += self.assert_alike(lambda: multiplied(multiplied(a, b), c), lambda: multiplied(a, multiplied(b, c)))
            done += self.assert_alike(
                lambda: multiplied(a, joined(b, c)),
                lambda: joined(multiplied(a, b), multiplied(a, c)),
            )
        self.assertEqual(done, 5 * len(SMALL) ** 3)

    def test_crates_alike_by_powers(self):
        done = 0
        for a, b, c in product(SMALL, repeat=3):
            done += self.assert_alike(lambda: power(a, joined(b, c)), lambda: multiplied(power(a, b), power(a, c)))
            done += self.assert_alike(lambda: power(multiplied(a, b), c), lambda: multiplied(power(a, c), power(b, c)))
            done += self.assert_alike(lambda: power(a, multiplied(b, c)), lambda: power(power(a, c), b))
        self.assertGreater(done, 600)
        for a in SMALL:
            self.assert_alike(lambda: power(a, (0,)), lambda: a)
            self.assert_alike(lambda: power((0,), a), lambda: (0,))
            self.assert_alike(lambda: power(a, ()), lambda: (0,))

    def test_crates_alike_by_what_is_put_in_them(self):
        done = 0
        for a, b, c in product(SMALL, repeat=3):
            done += self.assert_alike(lambda: put(joined(a, b), c), lambda: joined(put(a, c), put(b, c)))
            done += self.assert_alike(lambda: put(multiplied(a, b), c), lambda: multiplied(put(a, c), put(b, c)))
            done += self.assert_alike(lambda: put(a, put(b, c)), lambda: put(put(a, b), c))
        self.assertGreater(done, 1200)
        for a in SMALL:
            # Two of a crate are it put in the tray of two wells; a thing more is raised to the single crate.
            self.assert_alike(lambda: put((2,), a), lambda: multiplied(a, a))
            self.assert_alike(lambda: put(a, (1, 0)), lambda: power(a, SINGLE))

    def test_as_many_just_where_alike(self):
        for one, other in product(TINY_CRATES + ((1, 0), (2, 1), (4,), (3, 3)), repeat=2):
            counts = [how_many(one, number) == how_many(other, number) for number in range(13)]
            self.assertEqual(crates_alike(one, other)[0] == "alike", all(counts))

    def test_as_many_ways_out_of_a_sum_as_of_both_and_into_a_product(self):
        for a, b, c in product(SMALL, repeat=3):
            self.assertEqual(ways_many(joined(a, b), c), ways_many(a, c) * ways_many(b, c))
            self.assertEqual(ways_many(c, multiplied(a, b)), ways_many(c, a) * ways_many(c, b))

    def test_ways_out_of_a_sum_and_into_a_product(self):
        for a, b, c in product(SMALL, repeat=3):
            for way in every_way(joined(a, b), c)[:20]:
                self.assertEqual(joined_way(after(from_left(a, b), way), after(from_right(a, b), way)), way)
            for way in every_way(c, multiplied(a, b))[:20]:
                self.assertEqual(paired_way(a, b, after(way, to_left(a, b)), after(way, to_right(a, b))), way)

    def test_ways_out_of_a_product_are_those_into_a_power(self):
        done = 0
        for one, lower, upper in product(SMALL, repeat=3):
            crate = made(lambda: power(upper, lower))
            if crate is not None:
                start = multiplied(one, lower)
                self.assertEqual(ways_many(start, upper), ways_many(one, crate))
                if ways_many(one, crate) <= 100:
                    told = [into_power(one, lower, upper, way) for way in every_way(start, upper)]
                    self.assertEqual(sorted(told), every_way(one, crate))
                    self.assertEqual([out_of_power(one, lower, upper, way) for way in told], every_way(start, upper))
                    done += 1
        self.assertGreater(done, 200)

    def test_each_way_out_of_a_product_goes_by_the_one_out_of_the_power(self):
        for one, lower, upper in product(SMALL, repeat=3):
            crate = made(lambda: power(upper, lower))
            if crate is not None and made(lambda: multiplied(crate, lower)) is not None:
                for way in every_way(multiplied(one, lower), upper)[:5]:
                    told = into_power(one, lower, upper, way)
                    ahead = paired_way(crate, lower, after(to_left(one, lower), told), to_right(one, lower))
                    self.assertEqual(after(ahead, from_power(upper, lower)), way)


def carried(keeper, other, way, back):
    """The keeper carried over to another crate by a way there and one back."""
    crate, one, flat = keeper
    ahead = put_way((other, crate), (other, crate), back, back)
    return (other, after(one, way), after(after(ahead, flat), way))


class KeepersTest(unittest.TestCase):
    CRATES = ((1,), (2,), (0, 1), (1, 0), (1, 1), (0, 0, 1), (0, 1, 1), (1, 1, 1), (0, 2), (1, 2))

    def some_keepers(self):
        chance = random.Random(150)
        for crate in self.CRATES:
            for _ in range(15):
                yield (crate, some_way(chance, SINGLE, crate), some_way(chance, put(crate, crate), crate))
        # The one of each sort that holds: the pair, the marks by sums, the lost one.
        yield ((2,), ((0, (0, 0)),), ((0, (0, 3)),))
        yield ((1, 1), ((0, (0,)),), ((0, (0,)), (1, (0,)), (1, (0,)), (0, (0,))))
        yield ((0, 1), ((1, (0,)),), ((0, ()), (0, ()), (1, (0,))))
        yield ((0, 0, 1), ((2, (0,)),), ((0, ()), (1, ()), (0, ()), (1, ()), (2, (0,))))

    def test_carried_over_to_crates_alike_it_holds_the_same_rules(self):
        words = set()
        for keeper in self.some_keepers():
            self.assertIs(is_keeper(keeper), True)
            crate = keeper[0]
            for other in {crate, crate[::-1]}:
                _, way, back = crates_alike(crate, other)
                over = carried(keeper, other, way, back)
                self.assertIs(is_keeper(over), True)
                self.assertEqual(held(over)[:2], held(keeper)[:2])
                self.assertEqual(carried(over, crate, back, way), keeper)
                words.add(held(over)[0])
        self.assertEqual(words, {"holds", "parts"})

    def test_one_that_holds_puts_in_one_to_one_and_makes_flat_onto(self):
        for keeper in self.some_keepers():
            crate, one, flat = keeper
            if held(keeper) == ("holds",):
                self.assertEqual(onto(put(crate, crate), crate, flat)[0], "onto")
                self.assertEqual(one_to_one(SINGLE, one)[0], "one to one")

    def test_written_and_read_it_is_the_same(self):
        for crate, one, flat in self.some_keepers():
            again = read_crate(show_crate(crate))
            layers = put(again, again)
            told = (again, read_way(SINGLE, again, show_way(one)), read_way(layers, again, show_way(flat)))
            self.assertEqual(told, (crate, one, flat))
            self.assertEqual(held(told), held((crate, one, flat)))


class DeskTest(unittest.TestCase):
    def test_answers_as_the_functions_do(self):
        for one, other, way in all_ways():
            desk = Desk()
            desk.say("crate one " + show_crate(one))
            desk.say("crate other " + show_crate(other))
            desk.say("way way one other " + show_way(way))
            self.assertEqual(desk.say("ways one other"), str(ways_many(one, other)))
            self.assertEqual(desk.say("many other 7"), str(how_many(other, 7)))
            self.assertEqual(desk.say("onto way") == "yes", onto(one, other, way)[0] == "onto")
            self.assertEqual(desk.say("single way") == "yes", one_to_one(one, way)[0] == "one to one")
            middle, first, second = parts(one, other, way)
            desk.say("crate middle " + show_crate(middle))
            desk.say("way first one middle " + show_way(first))
            desk.say("way second middle other " + show_way(second))
            desk.say("after both first second")
            self.assertEqual(desk.say("alike both way"), "alike")
            self.assertEqual(desk.say("show both"), show_way(way))
            self.assertIs(is_way(one, other, read_way(one, other, desk.say("show way"))), True)


if __name__ == "__main__":
    unittest.main()
