"""Promises 2 and 8: a way read off what comes of the plain fillings."""

import copy
import unittest
from itertools import product

from samples import FULL, LARGE_CRATES, NO_NUMBERS, TINY_CRATES, every_way, some_ways
from traymap.errors import NoWay
from traymap.fillings import plain
from traymap.reading import read_off
from traymap.ways import idle, is_way, turned


def made(one, way):
    """What the way makes of the plain fillings of the one crate's trays."""
    return [turned(way, plain(one, tray)) for tray in range(len(one))]


class ReadOffTest(unittest.TestCase):
    def assert_read(self, one, other, told, due):
        handed = copy.deepcopy((one, other, told))
        way = read_off(one, other, told)
        self.assertEqual(repr(way), repr(due))
        self.assertIs(is_way(one, other, way), True)
        self.assertEqual(repr((one, other, told)), repr(handed))

    def assert_refused(self, one, other, told):
        handed = copy.deepcopy((one, other, told))
        with self.assertRaises(NoWay) as caught:
            read_off(one, other, told)
        self.assertIs(type(caught.exception), NoWay)
        self.assertEqual(repr((one, other, told)), repr(handed))

    def test_an_ordinary_one(self):
        told = [(1, (1, 1, 0)), (0, ())]
        self.assert_read((2, 3), (0, 3), told, ((1, (1, 1, 0)), (0, ())))

    def test_all_ways_between_tiny_crates(self):
        for one, other in product(TINY_CRATES, repeat=2):
            for way in every_way(one, other):
                self.assert_read(one, other, made(one, way), way)

    def test_ways_between_large_crates(self):
        crates = LARGE_CRATES + TINY_CRATES
        for one, other, way in some_ways(20, crates, crates):
            self.assert_read(one, other, made(one, way), way)

    def test_the_plain_fillings_themselves(self):
        for crate in LARGE_CRATES + TINY_CRATES:
            self.assert_read(crate, crate, [plain(crate, tray) for tray in range(len(crate))], idle(crate))

    def test_crates_without_trays(self):
        for other in ((), (0,), (3, 1), FULL):
            self.assert_read((), other, [], ())
        self.assert_refused((), (0,), [(0, ())])
        self.assert_refused((0,), (), [])
        self.assert_refused(FULL, (), [])

    def test_a_list_of_another_length(self):
        told = [(0, (1,)), (1, ()), (0, (0,))]
        one, other = (2, 0, 1), (1, 0)
        self.assert_read(one, other, told, tuple(told))
        for length in range(3):
            self.assert_refused(one, other, told[:length])
        for more in told:
            self.assert_refused(one, other, told + [more])
        self.assert_refused(FULL, (0,), [(0, ())] * 59)
        self.assert_refused(FULL, (0,), [(0, ())] * 61)

    def test_a_thing_that_is_no_well(self):
        one, other = (2, 12, 3), (1, 3)
        told = [(1, (0, 1, 0)), (0, (11,)), (1, (2, 0, 1))]
        self.assert_read(one, other, told, tuple(told))
        for place, (tray, things) in enumerate(told):
            beyond = one[place]
            for at in range(len(things)):
                for wrong in NO_NUMBERS + (beyond, beyond + 1, -beyond):
                    changed = (tray, things[:at] + (wrong,) + things[at + 1:])
                    self.assert_refused(one, other, told[:place] + [changed] + told[place + 1:])

    def test_truths_where_numbers_would_be_right(self):
        self.assert_read((2,), (2,), [(0, (1, 0))], ((0, (1, 0)),))
        for things in ((True, 0), (1, False), (True, False)):
            self.assert_refused((2,), (2,), [(0, things)])

    def test_a_well_of_another_tray(self):
        self.assert_read((1, 2), (1,), [(0, (0,)), (0, (1,))], ((0, (0,)), (0, (1,))))
        self.assert_refused((1, 2), (1,), [(0, (1,)), (0, (0,))])

    def test_any_thing_of_a_tray_without_wells(self):
        self.assert_refused((0,), (1,), [(0, (0,))])
        self.assert_read((0,), (1, 0), [(1, ())], ((1, ()),))

    def test_the_list_may_change_afterwards(self):
        told = [(0, (0,))]
        way = read_off((1,), (1,), told)
        told.clear()
        self.assertEqual(way, ((0, (0,)),))


if __name__ == "__main__":
    unittest.main()
