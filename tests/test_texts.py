"""Promises 2 and 25: crates and ways written as texts and read from them."""

import copy
import unittest
from itertools import product

from samples import FULL, LARGE_CRATES, TINY_CRATES, every_way, some_ways
from traymap.errors import NoText
from traymap.texts import read_crate, read_way, show_crate, show_way

# Words that write no number, or none of a crate.
NO_WORDS = (
    "00", "01", "07", "012", "+1", "-1", "1_0", "1.0", "1e1", "0x1", "1a", "a", "x1", "one", "--", "-0", "+", "_",
    "13", "14", "60", "99", "100", "120", "1000", "10000", "1" * 100, "0" * 100, "9" * 5000, "1" * 19000,
    "(1)", "1,", ",1", "1,1", "1:", ":1", "1:1", ":", ",", "~", "!", "'1'", "[", "#",
)


class CrateTextTest(unittest.TestCase):
    def assert_written(self, crate, text):
        handed = copy.deepcopy((crate, text))
        self.assertEqual(show_crate(crate), text)
        self.assertEqual(repr(read_crate(text)), repr(crate))
        self.assertEqual((crate, text), handed)

    def assert_no_text(self, text):
        with self.assertRaises(NoText, msg=text[:50]) as caught:
            read_crate(text)
        self.assertIs(type(caught.exception), NoText)

    def test_ordinary_ones(self):
        self.assert_written((), "-")
        self.assert_written((0,), "0")
        self.assert_written((2, 0, 1), "2 0 1")
        self.assert_written((12, 10, 11, 9), "12 10 11 9")
        self.assert_written(FULL, "12 " * 59 + "12")

    def test_all_small_crates_written_and_read(self):
        crates = [crate for trays in range(4) for crate in product(range(5), repeat=trays)]
        crates += [(wells,) * trays for wells in range(13) for trays in range(61)]
        for crate in crates + list(LARGE_CRATES):
            self.assert_written(crate, " ".join(str(wells) for wells in crate) or "-")

    def test_no_signs_and_blanks(self):
        for text in ("", " ", "  ", "   ", " -", "- ", " - "):
            self.assert_no_text(text)
        for text in ("1", "0", "2 0 1", "12 12", "0 " * 59 + "0"):
            read_crate(text)
            for wrong in (" " + text, text + " ", " " + text + " ", "  " + text, text + "  "):
                self.assert_no_text(wrong)
        self.assert_no_text("1  2")
        self.assert_no_text("1 2  3")
        self.assert_no_text("1   2")
        self.assert_no_text("1 " * 60)

    def test_words_that_are_none(self):
        for word in NO_WORDS:
            for text in (word, "1 " + word, word + " 1", "1 " + word + " 2", word + " " + word):
                self.assert_no_text(text)
        for text in ("1 -", "- 1", "- -", "1 - 2"):
            self.assert_no_text(text)

    def test_all_texts_of_a_few_signs(self):
        written = {show_crate(crate): crate for trays in range(4) for crate in product(range(13), repeat=trays)}
        for length in range(6):
            for signs in product("01 -2", repeat=length):
                text = "".join(signs)
                if text in written:
                    self.assertEqual(read_crate(text), written[text])
                else:
                    self.assert_no_text(text)

    def test_sixty_numbers_and_more(self):
        self.assertEqual(read_crate("0 " * 59 + "0"), (0,) * 60)
        self.assert_no_text("0 " * 60 + "0")
        self.assert_no_text("12 " * 60 + "12")
        self.assert_no_text("0 " * 9999 + "0")

    def test_twelve_wells_and_more(self):
        self.assertEqual(read_crate("12"), (12,))
        for number in range(13, 2000):
            self.assert_no_text(str(number))


class WayTextTest(unittest.TestCase):
    ONE = (3, 0, 2)
    OTHER = (2, 0, 12, 0)
    WAY = ((0, (2, 0)), (1, ()), (2, (0, 1, 0, 1, 0, 1, 0, 1, 0, 1, 0, 1)))
    WORDS = ("0:2,0", "1:", "2:0,1,0,1,0,1,0,1,0,1,0,1")

    def assert_written(self, one, other, way, text):
        handed = copy.deepcopy((one, other, way, text))
        self.assertEqual(show_way(way), text)
        self.assertEqual(repr(read_way(one, other, text)), repr(way))
        self.assertEqual((one, other, way, text), handed)

    def assert_no_text(self, one, other, text):
        handed = copy.deepcopy((one, other, text))
        with self.assertRaises(NoText, msg=(one, other, text[:80])) as caught:
            read_way(one, other, text)
        self.assertIs(type(caught.exception), NoText)
        self.assertEqual((one, other, text), handed)

    def changed(self, tray, word):
        return " ".join(self.WORDS[:tray] + (word,) + self.WORDS[tray + 1:])

    def test_ordinary_ones(self):
        self.assert_written((2,), (1, 1, 3), ((2, (0, 0, 1)),), "2:0,0,1")
        self.assert_written((2,), (1, 1, 3, 0), ((3, ()),), "3:")
        self.assert_written((2, 0), (0, 2), ((1, (1, 0)), (0, ())), "1:1,0 0:")
        self.assert_written((), (), (), "-")
        self.assert_written((), FULL, (), "-")
        self.assert_written(self.ONE, self.OTHER, self.WAY, " ".join(self.WORDS))

    def test_all_ways_between_tiny_crates_written_and_read(self):
        for one, other in product(TINY_CRATES, repeat=2):
            for way in every_way(one, other):
                words = [str(tray) + ":" + ",".join(str(well) for well in wells) for tray, wells in way]
                self.assert_written(one, other, way, " ".join(words) or "-")

    def test_ways_between_large_crates(self):
        for one, other, way in some_ways(130, LARGE_CRATES + TINY_CRATES, LARGE_CRATES + TINY_CRATES):
            self.assertEqual(read_way(one, other, show_way(way)), way)
        self.assert_written(FULL, FULL, ((59, (11,) * 12),) * 60, " ".join(["59:" + ",".join(["11"] * 12)] * 60))

    def test_no_pairs(self):
        self.assert_no_text((), (), "")
        self.assert_no_text((), (0,), "")
        self.assert_no_text((), (0,), "0:")
        self.assert_no_text((), (0,), "- -")
        self.assert_no_text((0,), (0,), "-")
        self.assert_no_text((0,), (0,), "")
        self.assert_no_text((0,), (), "-")
        self.assert_no_text((0,), (), "0:")

    def test_no_signs_and_blanks(self):
        right = " ".join(self.WORDS)
        for text in ("", " ", "  ", " -", "- ", " " + right, right + " ", "  " + right, right + "  "):
            self.assert_no_text(self.ONE, self.OTHER, text)
        self.assert_no_text(self.ONE, self.OTHER, "  ".join(self.WORDS))
        self.assert_no_text(self.ONE, self.OTHER, right.replace(" ", "  ", 1))
        self.assert_no_text((), (), " -")
        self.assert_no_text((), (), "- ")
        for at, sign in enumerate(right):
            if sign in ":,":
                self.assert_no_text(self.ONE, self.OTHER, right[:at] + " " + right[at:])
                self.assert_no_text(self.ONE, self.OTHER, right[:at + 1] + " " + right[at + 1:])

    def test_too_many_or_too_few_pairs(self):
        for tray in range(3):
            left = self.WORDS[:tray] + self.WORDS[tray + 1:]
            self.assert_no_text(self.ONE, self.OTHER, " ".join(left))
            self.assert_no_text(self.ONE, self.OTHER, " ".join(self.WORDS + (self.WORDS[tray],)))
        self.assert_no_text(self.ONE, self.OTHER, "-")
        self.assert_no_text(self.ONE, self.OTHER, " ".join(self.WORDS) + " -")
        self.assert_no_text((0,) * 60, (0,), "0: " * 60 + "0:")
        self.assert_no_text((0,) * 60, (0,), "0: " * 58 + "0:")
        self.assertEqual(read_way((0,) * 60, (0,), "0: " * 59 + "0:"), ((0, ()),) * 60)

    def test_without_a_colon_or_with_two(self):
        for word in ("0", "0,2", "02,0", "0;2,0", "0::2,0", "0:2:0", "0:2,0:", ":0:2,0", "::", ":", "0:2,:0"):
            self.assert_no_text(self.ONE, self.OTHER, self.changed(0, word))
        for word in ("1", "1::", ":1:", ":", "::", "1 :", "1:1:", ":1"):
            self.assert_no_text(self.ONE, self.OTHER, self.changed(1, word))

    def test_a_comma_at_an_end(self):
        for word in ("0:2,0,", "0:,2,0", "0:2,,0", "0:,", "0,:2,0", ",0:2,0", "0:2,0,,"):
            self.assert_no_text(self.ONE, self.OTHER, self.changed(0, word))
        for word in ("1:,", "1:,,", ",1:", "1,:"):
            self.assert_no_text(self.ONE, self.OTHER, self.changed(1, word))

    def test_numbers_written_otherwise(self):
        for number in NO_WORDS + ("", "00", "02"):
            self.assert_no_text(self.ONE, self.OTHER, self.changed(0, number + ":2,0"))
            self.assert_no_text(self.ONE, self.OTHER, self.changed(0, "0:" + number + ",0"))
            self.assert_no_text(self.ONE, self.OTHER, self.changed(0, "0:2," + number))
            self.assert_no_text(self.ONE, self.OTHER, self.changed(1, number + ":"))

    def test_a_well_or_a_tray_that_is_none(self):
        self.assert_no_text(self.ONE, self.OTHER, self.changed(0, "0:2,3"))
        self.assert_no_text(self.ONE, self.OTHER, self.changed(0, "0:3,2"))
        self.assert_no_text(self.ONE, self.OTHER, self.changed(0, "4:"))
        self.assert_no_text(self.ONE, self.OTHER, self.changed(1, "4:"))
        self.assert_no_text(self.ONE, self.OTHER, self.changed(1, "0:0,0"))
        self.assert_no_text((0,), (1,), "0:0")
        self.assert_no_text((1,), (1,), "0:1")
        self.assert_no_text((1,), (1,), "1:0")
        self.assert_no_text(FULL, FULL, "59:" + "11," * 11 + "12" + (" 59:" + "11," * 11 + "11") * 59)
        self.assert_no_text(FULL, FULL, "60:" + "11," * 11 + "11" + (" 59:" + "11," * 11 + "11") * 59)

    def test_a_well_more_or_fewer(self):
        for word in ("0:", "0:2", "0:2,0,0", "1:0", "3:0", "2:0", "2:" + "0," * 10 + "0", "2:" + "0," * 12 + "0"):
            self.assert_no_text(self.ONE, self.OTHER, self.changed(0, word))

    def test_all_texts_of_a_few_signs(self):
        for one, other in (((2,), (1, 0)), ((1, 0), (0, 1)), ((), (1,)), ((2,), (2,))):
            written = {show_way(way): way for way in every_way(one, other)}
            for length in range(6):
                for signs in product("01:, -", repeat=length):
                    text = "".join(signs)
                    if text in written:
                        self.assertEqual(read_way(one, other, text), written[text])
                    else:
                        self.assert_no_text(one, other, text)


if __name__ == "__main__":
    unittest.main()
