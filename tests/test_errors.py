"""Promise 2 and the interface: the refusals."""

import unittest

from traymap.errors import (
    NoName,
    NoNumber,
    NoRow,
    NoText,
    NoWay,
    TooBig,
    TooMany,
    TrayError,
)

REFUSALS = (TooMany, NoWay, NoNumber, TooBig, NoText, NoRow, NoName)


class RefusalTest(unittest.TestCase):
    def test_the_base_is_a_value_error(self):
        self.assertTrue(issubclass(TrayError, ValueError))
        with self.assertRaises(ValueError):
            raise TrayError("a text")

    def test_all_stand_under_the_base(self):
        for refusal in REFUSALS:
            with self.subTest(refusal=refusal):
                self.assertTrue(issubclass(refusal, TrayError))
                self.assertIsNot(refusal, TrayError)

    def test_none_stands_under_another(self):
        self.assertEqual(len(set(REFUSALS)), 7)
        for refusal in REFUSALS:
            for other in REFUSALS:
                with self.subTest(refusal=refusal, other=other):
                    self.assertEqual(issubclass(refusal, other), refusal is other)

    def test_each_is_made_of_a_text(self):
        for refusal in (TrayError,) + REFUSALS:
            for text in ("a text", ""):
                with self.subTest(refusal=refusal, text=text):
                    made = refusal(text)
                    self.assertIsInstance(made, refusal)
                    self.assertEqual(str(made), text)
                    with self.assertRaises(TrayError):
                        raise made


if __name__ == "__main__":
    unittest.main()
