"""The refusals: each stands straight under TrayError, none under another."""


class TrayError(ValueError):
    """Any refusal."""


class TooMany(TrayError):
    """A list would be longer than it may be."""


class NoWay(TrayError):
    """No way does what was told."""


class NoNumber(TrayError):
    """No way has that number."""


class TooBig(TrayError):
    """What would come is no crate by the bounds."""


class NoText(TrayError):
    """A text writes no crate, or no way between two crates."""


class NoRow(TrayError):
    """A desk was told what is no row."""


class NoName(TrayError):
    """A name isn't kept, or is kept for the other sort."""
