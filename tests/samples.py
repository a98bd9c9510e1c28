"""What several tests take: crates, things, ways listed without the package, and what they all assert."""

import copy
import random
import time
import unittest
from itertools import product

from traymap.crates import is_crate
from traymap.errors import TooBig

THOUSAND_FIGURES = 10 ** 999
FRACTION_OF_A_SECOND = 0.5

# One of each sort that "of anything" names, none of them a crate, a filling or a way.
NEITHER = (
    None,
    True,
    False,
    0,
    1,
    -1,
    12,
    THOUSAND_FIGURES,
    -THOUSAND_FIGURES,
    "",
    "-",
    "01",
    "1 2",
    "a" * 20000,
    [],
    [0],
    [1, 2],
    [(1, 2)],
    ((),),
    ((1,),),
    ((1, 2), (3,)),
    ((((((),),),),),),
    [[[[[[]]]]]],
    (None,),
    ("1",),
    ([],),
    (None, None),
)

# What stands for no number of a tray or a well, whatever the crates are.
NO_NUMBERS = (-1, -2, 13, 60, 100, THOUSAND_FIGURES, -THOUSAND_FIGURES)
NO_NUMBERS += (True, False, None, "", "0", "1", "a", (), (0,), (0, 1), [], [0])

# Things of every sort, none like another one.
THINGS = (
    THOUSAND_FIGURES,
    -THOUSAND_FIGURES,
    -1,
    7,
    "",
    "a text",
    True,
    False,
    None,
    (),
    (1, (2, [3])),
    [],
    [4, [5, "b"]],
)

# Between any two of these, all ways can be listed.
TINY_CRATES = ((), (0,), (1,), (2,), (3,), (0, 0), (0, 1), (1, 1), (2, 0), (1, 2), (0, 2, 1), (1, 1, 1))

# Put in a crate, or a crate put in it, it changes nothing.
SINGLE = (1,)

FULL = (12,) * 60
LARGE_CRATES = (FULL, tuple(range(13)), (12,), (0,) * 60, (1,) * 60, (0, 12) * 30, (5, 0, 12, 1, 7) * 12)


def every_way(one, other):
    """All ways from the one crate to the other, as their tuples rise."""
    choices = [
        [(tray, taken) for tray, many in enumerate(other) for taken in product(range(wells), repeat=many)]
        for wells in one
    ]
    return list(product(*choices))


def some_way(chance, one, other):
    """One way from the one crate to the other, or None where none leads there."""
    pairs = []
    for wells in one:
        trays = [tray for tray, many in enumerate(other) if wells or not many]
        if not trays:
            return None
        tray = chance.choice(trays)
        pairs.append((tray, tuple(chance.randrange(wells) for _ in range(other[tray]))))
    return tuple(pairs)


def some_ways(seed, ones, others, times=1):
    """Triples of two crates and a way from the first to the second, for all of them that have one."""
    chance = random.Random(seed)
    triples = []
    for one in ones:
        for other in others:
            ways = [some_way(chance, one, other) for _ in range(times)]
            triples += [(one, other, way) for way in ways if way is not None]
    return triples


def some_filling(chance, crate, tray, things=THINGS):
    """The tray of the crate with some of the things in its wells."""
    return (tray, tuple(chance.choice(things) for _ in range(crate[tray])))


class MadeCase(unittest.TestCase):
    """The tests of a function, make, that makes a crate of two or refuses with TooBig."""

    make = None

    def assert_made(self, one, other, due):
        handed = copy.deepcopy((one, other))
        told = self.make(one, other)
        self.assertEqual(repr(told), repr(due))
        self.assertIs(is_crate(told), True)
        self.assertEqual((one, other), handed)

    def assert_refused(self, one, other):
        handed = copy.deepcopy((one, other))
        with self.assertRaises(TooBig) as caught:
            self.make(one, other)
        self.assertIs(type(caught.exception), TooBig)
        self.assertEqual((one, other), handed)


class RowsCase(MadeCase):
    """Those of such a function beside another, rows, that lists for what the trays stand and refuses alike."""

    rows = None

    def due_rows(self, one, other):
        """The rows, listed without the package."""
        raise NotImplementedError

    def assert_made(self, one, other, due):
        super().assert_made(one, other, due)
        due_rows = self.due_rows(one, other)
        listed = self.rows(one, other)
        self.assertIs(type(listed), list)
        self.assertEqual(repr(listed), repr(due_rows))
        self.assertEqual(listed, sorted(listed))
        self.assertEqual(len(listed), len(due))
        # Changed, it changes nothing that is told later.
        listed.append(listed[:1])
        listed.reverse()
        self.assertEqual(self.rows(one, other), due_rows)
        super().assert_made(one, other, due)

    def assert_refused(self, one, other):
        handed = copy.deepcopy((one, other))
        start = time.process_time()
        super().assert_refused(one, other)
        with self.assertRaises(TooBig) as caught:
            self.rows(one, other)
        self.assertLess(time.process_time() - start, FRACTION_OF_A_SECOND)
        self.assertIs(type(caught.exception), TooBig)
        self.assertEqual((one, other), handed)
