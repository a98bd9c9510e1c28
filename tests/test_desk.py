"""Promises 2 and 26: a desk that keeps crates and ways by names and answers rows."""

import copy
import random
import unittest
from itertools import product

from samples import FULL, LARGE_CRATES, NEITHER, TINY_CRATES, every_way, some_way
from traymap.alike import parting
from traymap.counting import ways_many
from traymap.desk import Desk
from traymap.errors import NoName, NoRow, NoText, TrayError
from traymap.fillings import how_many
from traymap.reach import one_to_one, onto
from traymap.texts import read_crate, show_crate, show_way
from traymap.ways import after, turned

KINDS = ("crate", "way", "many", "ways", "after", "alike", "onto", "single", "show")

# Rows by which the desk of the tests is laid out: crates, ways, and a name of each length.
LAID_OUT = (
    "crate a 2 1",
    "crate b 0 2",
    "crate c 0 2",
    "crate e -",
    "crate abcdefgh 12",
    "way w a b 1:1,0 0:",
    "way v a b 1:1,0 1:0,0",
    "way i b c 0: 1:0,1",
    "way n e b -",
    "crate d 1 1",
    "way x d a 0:0,0 1:0",
    "way y d a 1:0 1:0",
)
LAID_NAMES = tuple(row.split(" ")[1] for row in LAID_OUT)
OTHER_NAMES = ("z", "zz", "q", "crate", "way", "show", "ok", "alike", "yes", "no", "abcdefg")


def shown(desk):
    """What the desk shows of each name, None where it keeps nothing."""
    told = {}
    for name in LAID_NAMES + OTHER_NAMES:
        try:
            told[name] = desk.say("show " + name)
        except NoName:
            told[name] = None
    return told


def all_told(desk):
    """What the desk tells of all that it keeps: also between which crates the ways lead, and of what sort names are."""
    told = shown(desk)
    for kind in ("onto", "single", "alike w", "alike n", "alike x", "ways a", "ways e"):
        for name in LAID_NAMES + OTHER_NAMES:
            try:
                told[kind, name] = desk.say(kind + " " + name)
            except TrayError as refused:
                told[kind, name] = type(refused)
    return told


class DeskCase(unittest.TestCase):
    def setUp(self):
        self.desk = Desk()
        for row in LAID_OUT:
            self.assert_says(row, "ok")

    def assert_says(self, row, due):
        told = self.desk.say(row)
        self.assertIs(type(told), str)
        self.assertEqual(told, due, row)

    def assert_refused(self, row, refusal):
        kept, handed = all_told(self.desk), copy.deepcopy(row)
        with self.assertRaises(refusal, msg=repr(row)[:200]) as caught:
            self.desk.say(row)
        self.assertIs(type(caught.exception), refusal)
        self.assertEqual(repr(row), repr(handed))
        self.assertEqual(all_told(self.desk), kept)


class AnswerTest(DeskCase):
    def test_crate_and_show(self):
        for crate in TINY_CRATES + LARGE_CRATES:
            self.assert_says("crate z " + show_crate(crate), "ok")
            self.assert_says("show z", show_crate(crate))
        self.assert_says("show a", "2 1")
        self.assert_says("show e", "-")
        self.assert_says("crate z " + show_crate(FULL), "ok")
        self.assert_says("show z", "12 " * 59 + "12")

    def test_way_and_show(self):
        self.assert_says("show w", "1:1,0 0:")
        self.assert_says("show n", "-")
        self.assert_says("way z a a 1:1 1:0", "ok")
        self.assert_says("show z", "1:1 1:0")
        self.assert_says("way z e e -", "ok")
        self.assert_says("show z", "-")

    def test_many(self):
        self.assert_says("many a 0", "0")
        self.assert_says("many b 0", "1")
        self.assert_says("many e 0", "0")
        self.assert_says("many a 5", "30")
        self.assert_says("many a 1000", "1001000")
        self.assert_says("many e 1000", "0")
        self.assert_says("many abcdefgh 999", str(999 ** 12))
        for number in range(0, 1001, 7):
            self.assert_says(f"many a {number}", str(how_many((2, 1), number)))
        self.assert_says("crate z " + show_crate(FULL), "ok")
        self.assert_says("many z 1000", "60" + "0" * 36)

    def test_ways(self):
        self.assert_says("ways a b", "10")
        self.assert_says("ways b a", "0")
        self.assert_says("ways a a", str(ways_many((2, 1), (2, 1))))
        self.assert_says("ways e a", "1")
        self.assert_says("ways e e", "1")
        self.assert_says("ways a e", "0")
        self.assert_says("crate z " + show_crate(FULL), "ok")
        self.assert_says("ways z z", str((60 * 12 ** 12) ** 60))

    def test_after(self):
        self.assert_says("after z w i", "ok")
        self.assert_says("show z", "1:1,0 0:")
        self.assert_says("after z x w", "ok")
        self.assert_says("show z", "1:0,0 0:")
        self.assert_says("alike z z", "alike")
        self.assert_says("onto z", "no")
        # What was kept leads from the first crate of the one to the second of the other.
        self.assert_says("way zz d b 1:0,0 0:", "ok")
        self.assert_says("alike z zz", "alike")
        self.assert_says("after z n i", "ok")
        self.assert_says("show z", "-")

    def test_after_takes_the_place_of_one_of_both(self):
        self.assert_says("crate s 1 1", "ok")
        self.assert_says("way p s s 1:0 0:0", "ok")
        self.assert_says("after p p p", "ok")
        self.assert_says("show p", "0:0 1:0")
        self.assert_says("way p s s 0:0 0:0", "ok")
        self.assert_says("way q s s 1:0 0:0", "ok")
        self.assert_says("after p p q", "ok")
        self.assert_says("show p", "1:0 1:0")
        self.assert_says("after q p q", "ok")
        self.assert_says("show q", "0:0 0:0")

    def test_alike(self):
        self.assert_says("alike w w", "alike")
        self.assert_says("alike n n", "alike")
        # Each filling of tray 1 parts them: it has one well.
        self.assertIn(self.desk.say("alike w v"), ("1:0", "1:1"))
        self.assertIn(self.desk.say("alike v w"), ("1:0", "1:1"))
        self.assert_says("way z a c 1:1,0 0:", "ok")
        self.assert_says("alike w z", "alike")
        self.assert_says("way z a b 1:0,1 0:", "ok")
        self.assertIn(self.desk.say("alike w z"), ("0:0,1", "0:1,0"))
        self.assert_says("crate o 0", "ok")
        self.assert_says("crate oo 0 0", "ok")
        self.assert_says("way z o oo 0:", "ok")
        self.assert_says("way zz o oo 1:", "ok")
        self.assert_says("alike z zz", "0:")

    def test_alike_for_all_ways_between_tiny_crates(self):
        for one, other in product(((0,), (1,), (2,), (0, 1), (1, 2)), repeat=2):
            self.desk.say("crate a " + show_crate(one))
            self.desk.say("crate b " + show_crate(other))
            for first, second in product(every_way(one, other), repeat=2):
                self.desk.say("way v a b " + show_way(first))
                self.desk.say("way w a b " + show_way(second))
                told = self.desk.say("alike v w")
                if first == second:
                    self.assertEqual(told, "alike")
                else:
                    tray, things = told.split(":")
                    self.assertRegex(told, r"^[0-9]:([01](,[01])*)?$")
                    filling = (int(tray), tuple(int(thing) for thing in things.split(",") if thing))
                    self.assertEqual(len(filling[1]), one[filling[0]])
                    self.assertNotEqual(turned(first, filling), turned(second, filling))

    def test_onto_and_single(self):
        self.assert_says("onto w", "yes")
        self.assert_says("single w", "no")
        self.assert_says("onto v", "no")
        self.assert_says("single v", "no")
        self.assert_says("onto i", "yes")
        self.assert_says("single i", "yes")
        self.assert_says("onto n", "no")
        self.assert_says("single n", "yes")
        self.assert_says("onto x", "no")
        self.assert_says("single x", "yes")

    def test_onto_and_single_for_all_ways_between_tiny_crates(self):
        for one, other in product(TINY_CRATES, repeat=2):
            self.desk.say("crate a " + show_crate(one))
            self.desk.say("crate b " + show_crate(other))
            for way in every_way(one, other)[:30]:
                self.assert_says("way w a b " + show_way(way), "ok")
                self.assert_says("show w", show_way(way))
                self.assert_says("onto w", "yes" if onto(one, other, way)[0] == "onto" else "no")
                self.assert_says("single w", "yes" if one_to_one(one, way)[0] == "one to one" else "no")


class NameTest(DeskCase):
    def test_takes_the_place_of_the_same_sort(self):
        self.assert_says("crate a 5", "ok")
        self.assert_says("show a", "5")
        self.assert_says("way w b b 0: 1:1,1", "ok")
        self.assert_says("show w", "0: 1:1,1")
        self.assert_says("show b", "0 2")

    def test_a_crate_takes_the_place_of_a_way(self):
        self.assert_says("crate w 3", "ok")
        self.assert_says("show w", "3")
        self.assert_says("many w 2", "8")
        for row in ("onto w", "single w", "alike w w", "alike w v", "alike v w", "after z w i"):
            self.assert_refused(row, NoName)

    def test_a_way_takes_the_place_of_a_crate(self):
        self.assert_says("way a a b 1:1,0 0:", "ok")
        self.assert_says("show a", "1:1,0 0:")
        self.assert_says("alike a w", "alike")
        for row in ("many a 2", "ways a b", "ways b a", "way z a b 0: 0:", "way z b a 0: 0:"):
            self.assert_refused(row, NoName)
        self.assert_says("after b a i", "ok")
        self.assert_says("show b", "1:1,0 0:")
        self.assert_refused("many b 2", NoName)

    def test_and_back_again(self):
        self.assert_says("crate w 3", "ok")
        self.assert_says("way w b c 0: 0:", "ok")
        self.assert_says("show w", "0: 0:")
        self.assert_refused("many w 2", NoName)
        self.assert_says("crate w 4", "ok")
        self.assert_says("show w", "4")
        self.assert_refused("onto w", NoName)

    def test_a_way_keeps_its_crates(self):
        self.assert_says("crate a 7 7 7", "ok")
        self.assert_says("crate b -", "ok")
        self.assert_says("show w", "1:1,0 0:")
        self.assert_says("onto w", "yes")
        self.assert_says("single w", "no")
        self.assert_says("alike w w", "alike")
        self.assertIn(self.desk.say("alike w v"), ("1:0", "1:1"))
        self.assert_says("after z w i", "ok")
        self.assert_says("after z x w", "ok")
        # A way told now between crates of those names leads between others.
        self.assert_says("crate b 0 2", "ok")
        self.assert_says("way z a b 0: 0: 0:", "ok")
        self.assert_refused("alike z w", NoRow)
        self.assert_says("crate a 2 1", "ok")
        self.assert_says("way z a b 1:1,0 0:", "ok")
        self.assert_says("alike z w", "alike")

    def test_a_way_keeps_its_crates_where_a_way_has_their_names(self):
        self.assert_says("way a a b 1:1,0 0:", "ok")
        self.assert_says("way b d c 0: 0:", "ok")
        self.assert_says("onto w", "yes")
        self.assert_says("alike a w", "alike")
        self.assert_says("after z a i", "ok")

    def test_names_like_the_words_of_the_desk(self):
        for word in KINDS + ("ok", "yes", "no"):
            self.assert_says(f"crate {word} 1 0", "ok")
            self.assert_says(f"show {word}", "1 0")
            self.assert_says(f"many {word} 3", "4")
            self.assert_says(f"ways {word} {word}", "2")
        for word in KINDS:
            others = [name for name in KINDS if name != word]
            self.assert_says(f"way {word} {others[0]} {others[1]} 0:0 1:", "ok")
            self.assert_says(f"onto {word}", "yes")
            self.assert_says(f"single {word}", "yes")
            self.assert_says(f"alike {word} {word}", "alike")
            self.assert_says(f"after {word} {word} {word}", "ok")
            self.assert_says(f"crate {word} 1 0", "ok")

    def test_one_to_eight_small_letters(self):
        for name in ("a", "z", "ab", "abcdefg", "abcdefgh", "zzzzzzzz", "aaaaaaaa"):
            self.assert_says(f"crate {name} 4", "ok")
            self.assert_says(f"show {name}", "4")


class NoRowTest(DeskCase):
    # One right row of each kind, with what stands behind it.
    RIGHT = (
        "crate z 2 1",
        "crate z -",
        "way z a b 1:1,0 0:",
        "way z e a -",
        "many a 5",
        "ways a b",
        "after z w i",
        "alike w v",
        "onto w",
        "single w",
        "show w",
    )

    def test_right_ones(self):
        for row in self.RIGHT:
            self.desk.say(row)

    def test_blanks_at_an_end_or_two_together(self):
        for row in self.RIGHT:
            for wrong in (" " + row, row + " ", "  " + row, row + "  ", " " + row + " "):
                self.assert_refused(wrong, NoRow)
            for at, sign in enumerate(row):
                if sign == " ":
                    self.assert_refused(row[:at] + " " + row[at:], NoRow)
        for row in ("", " ", "  "):
            self.assert_refused(row, NoRow)

    def test_a_word_fewer(self):
        for row in ("crate", "crate z", "way", "way z", "way z a", "way z a b", "many", "many a", "ways", "ways a"):
            self.assert_refused(row, NoRow)
        for row in ("after", "after z", "after z w", "alike", "alike w", "onto", "single", "show"):
            self.assert_refused(row, NoRow)

    def test_a_word_more(self):
        for row in self.RIGHT[4:]:
            for word in ("a", "w", "1", "-", "0:", "x y"):
                self.assert_refused(row + " " + word, NoRow)

    def test_another_first_word(self):
        for word in ("Crate", "CRATE", "crates", "crat", "w", "keep", "say", "-", "1", "a", "row", "text", "nothing"):
            for rest in ("", " a", " a b", " z 1 2", " z w i", " z a b 1:1,0 0:", " a 5"):
                self.assert_refused(word + rest, NoRow)

    def test_a_name_that_is_none(self):
        wrong = ("A", "Ab", "aB", "a1", "1a", "1", "0", "-", "a-b", "a_b", "_", "a.b", "a:b", "a,b", "abcdefghi")
        wrong += ("a" * 9, "a" * 1000, "~", "a'", "(a)", "#", "a!")
        for name in wrong:
            for row in (
                f"crate {name} 2 1",
                f"way {name} a b 1:1,0 0:",
                f"way z {name} b 1:1,0 0:",
                f"way z a {name} 1:1,0 0:",
                f"many {name} 5",
                f"ways {name} b",
                f"ways a {name}",
                f"after {name} w i",
                f"after z {name} i",
                f"after z w {name}",
                f"alike {name} w",
                f"alike w {name}",
                f"onto {name}",
                f"single {name}",
                f"show {name}",
            ):
                self.assert_refused(row, NoRow)

    def test_numbers_written_otherwise_in_many(self):
        wrong = ("00", "01", "05", "0005", "00000", "01000", "+5", "-5", "-0", "5.", "5.0", "0x5", "5a", "a", "five")
        wrong += ("1_0", "1,000", "-", ":", "5:")
        wrong += ("1001", "1002", "1999", "2000", "9999", "10000", "1" * 100, "9" * 10000)
        for number in wrong:
            self.assert_refused("many a " + number, NoRow)
            # Ahead of a name that isn't kept.
            self.assert_refused("many z " + number, NoRow)
            self.assert_refused("many w " + number, NoRow)

    def test_what_is_no_text(self):
        for thing in NEITHER + ((), ("show", "a"), ["show", "a"], ["show a"], ("show a",)):
            if not isinstance(thing, str):
                self.assert_refused(thing, NoRow)

    def test_texts_that_are_none(self):
        for thing in NEITHER + ("x" * 20000, " " * 20000, "show" * 5000, "a " * 9999 + "a"):
            if isinstance(thing, str):
                self.assert_refused(thing, NoRow)

    def test_after_where_the_crates_do_not_fit(self):
        for row in ("after z w w", "after z w x", "after z i w", "after z v x", "after z n x", "after w w w"):
            self.assert_refused(row, NoRow)

    def test_alike_where_the_crates_do_not_fit(self):
        # Other crates ahead, other ones behind, both.
        self.assert_says("way z a d 0:0 0:0", "ok")
        for row in ("alike w z", "alike z w", "alike w i", "alike i w", "alike w x", "alike x w", "alike w n"):
            self.assert_refused(row, NoRow)

    def test_ahead_of_no_name(self):
        for row in ("ways z Z", "ways Z z", "after q z A", "alike z 1"):
            self.assert_refused(row, NoRow)
        for row in ("crate A x", "way z q q", "way Z q q 1", "way z q q "):
            self.assert_refused(row, NoRow)


class NoNameTest(DeskCase):
    def test_not_kept(self):
        for row in ("many z 5", "ways z a", "ways a z", "ways z z", "onto z", "single z", "show z", "show abcdefg"):
            self.assert_refused(row, NoName)
        for row in ("after q z w", "after q w z", "after z z z", "alike z w", "alike w z"):
            self.assert_refused(row, NoName)
        for row in ("way q a z 0:", "way q z a 0:"):
            self.assert_refused(row, NoName)

    def test_of_the_other_sort(self):
        for row in ("many w 5", "ways w a", "ways a w", "onto a", "single a", "way q w a 0:", "way q a w 0:"):
            self.assert_refused(row, NoName)
        for row in ("after q a w", "after q w a", "after q a a", "alike a w", "alike w a", "alike a a"):
            self.assert_refused(row, NoName)

    def test_ahead_of_crates_that_do_not_fit(self):
        for row in ("after q x z", "after q z x", "alike x z", "alike z x", "after q w b", "alike w b"):
            self.assert_refused(row, NoName)

    def test_ahead_of_no_text(self):
        for text in ("x", "0:9", "-", "1 2", "0::", "0: 0: 0: 0:", "~"):
            for row in ("way q z b ", "way q a z ", "way q w b ", "way q a w ", "way q z z "):
                self.assert_refused(row + text, NoName)

    def test_a_name_that_was_to_be_kept_but_was_refused(self):
        self.assert_refused("crate z 13", NoText)
        self.assert_refused("show z", NoName)
        self.assert_refused("way z a b 0:", NoText)
        self.assert_refused("show z", NoName)
        self.assert_refused("after z w w", NoRow)
        self.assert_refused("show z", NoName)


class NoTextTest(DeskCase):
    def test_numbers_that_are_no_crate(self):
        wrong = ("13", "1 13", "00", "07", "+1", "-1", "1_0", "x", "1 x", "- -", "1 -", "0:", "1,2", "9" * 100)
        wrong += ("0 " * 60 + "0", "A", "~", "1 2 c", "9" * 10000)
        for text in wrong:
            self.assert_refused("crate z " + text, NoText)
            self.assert_refused("crate a " + text, NoText)
            self.assert_refused("crate w " + text, NoText)

    def test_pairs_that_are_no_way(self):
        wrong = ("-", "0:", "1:1,0", "1:1,0 0: 0:", "1:1,0 1:0,1", "1:1,2 0:", "2:1,0 0:", "1:1,0, 0:", "1:,1,0 0:")
        wrong += ("1:1,0 0", "1:1,0 0::", "1:1:0 0:", "01:1,0 0:", "1:01,0 0:", "1:1,0 -", "- 1:1,0 0:")
        wrong += ("x", "x y", "9" * 100)
        for text in wrong:
            self.assert_refused("way z a b " + text, NoText)
            self.assert_refused("way w a b " + text, NoText)
            self.assert_refused("way a a b " + text, NoText)
        self.assert_refused("way z e e 0:", NoText)
        self.assert_refused("way z a e -", NoText)
        self.assert_refused("way z a e 0: 0:", NoText)


class DesksTest(DeskCase):
    def test_two_desks_know_nothing_of_each_other(self):
        other = Desk()
        self.assertEqual(set(shown(other).values()), {None})
        other.say("crate a 9")
        other.say("crate w 8")
        self.assert_says("show a", "2 1")
        self.assert_says("show w", "1:1,0 0:")
        self.assertEqual(other.say("show a"), "9")
        with self.assertRaises(NoName):
            other.say("show b")
        self.assert_says("crate z 3", "ok")
        with self.assertRaises(NoName):
            other.say("show z")

    def test_the_same_again(self):
        for row in ("show w", "many a 7", "ways a b", "onto w", "single w", "alike w w", "show a"):
            self.assert_says(row, self.desk.say(row))

    def test_a_row_of_many_signs(self):
        self.assert_says("crate z " + show_crate(FULL), "ok")
        way = ((59, (11,) * 12),) * 60
        self.assert_says("way y z z " + show_way(way), "ok")
        self.assert_says("show y", show_way(way))
        self.assert_says("after y y y", "ok")
        self.assert_says("show y", show_way(way))


class Followed:
    """What a desk keeps, followed by plain means: names with a crate, or with two crates and a way."""

    def __init__(self):
        self.kept = {}

    def sorted_out(self, sort, names):
        told = [self.kept.get(name, (None,)) for name in names]
        if any(entry[0] != sort for entry in told):
            raise NoName("followed")
        return [entry[1:] for entry in told]

    def say(self, row):
        kind, *words = row.split(" ")
        if kind == "crate":
            self.kept[words[0]] = ("crate", read_crate(" ".join(words[1:])))
            return "ok"
        if kind == "way":
            (one,), (other,) = self.sorted_out("crate", words[1:3])
            texts = {show_way(way): way for way in every_way(one, other)}
            if " ".join(words[3:]) not in texts:
                raise NoText("followed")
            self.kept[words[0]] = ("way", one, other, texts[" ".join(words[3:])])
            return "ok"
        if kind == "ways":
            (one,), (other,) = self.sorted_out("crate", words)
            return str(len(every_way(one, other)))
        if kind == "show":
            if words[0] not in self.kept:
                raise NoName("followed")
            sort, *entry = self.kept[words[0]]
            return show_crate(entry[0]) if sort == "crate" else show_way(entry[2])
        (one, two, first), (three, four, second) = self.sorted_out("way", words[-2:])
        if kind == "alike":
            if (one, two) != (three, four):
                raise NoRow("followed")
            return "alike" if first == second else None
        if two != three:
            raise NoRow("followed")
        self.kept[words[0]] = ("way", one, four, after(first, second))
        return "ok"


class FollowedTest(unittest.TestCase):
    CRATES = ((), (0,), (2,), (2,), (0, 1))
    NAMES = ("a", "b", "c", "d", "way")

    def some_row(self, chance, followed):
        names = [chance.choice(self.NAMES) for _ in range(3)]
        kind = chance.choice(("crate", "way", "way", "ways", "after", "after", "alike", "show"))
        if kind == "crate":
            return f"crate {names[0]} " + chance.choice([show_crate(crate) for crate in self.CRATES] + ["13", "x"])
        if kind == "way":
            entries = [followed.kept.get(name, (None,)) for name in names[1:]]
            text = "0:"
            if all(entry[0] == "crate" for entry in entries):
                way = some_way(chance, entries[0][1], entries[1][1])
                text = text if way is None else show_way(way)
            return " ".join(["way"] + names) + " " + text
        many = {"ways": 2, "after": 3, "alike": 2, "show": 1}[kind]
        return " ".join([kind] + names[:many])

    def told(self, desk, row):
        try:
            return desk.say(row)
        except TrayError as refused:
            return type(refused)

    def test_many_rows(self):
        chance = random.Random(140)
        seen = set()
        for _ in range(100):
            desk, followed = Desk(), Followed()
            for _ in range(80):
                row = self.some_row(chance, followed)
                due, told = self.told(followed, row), self.told(desk, row)
                if due is None:
                    one, _, first = followed.kept[row.split(" ")[1]][1:]
                    second = followed.kept[row.split(" ")[2]][3]
                    tray, things = parting(one, first, second)
                    due = f"{tray}:" + ",".join(str(thing) for thing in things)
                self.assertEqual(told, due, row)
                seen.add((row.split(" ")[0], told if told in ("ok", "alike", NoRow, NoName, NoText) else ""))
        for due in (("after", "ok"), ("after", NoRow), ("after", NoName), ("way", "ok"), ("way", NoText)):
            self.assertIn(due, seen)
        for due in (("alike", "alike"), ("alike", ""), ("alike", NoRow), ("alike", NoName)):
            self.assertIn(due, seen)


if __name__ == "__main__":
    unittest.main()
