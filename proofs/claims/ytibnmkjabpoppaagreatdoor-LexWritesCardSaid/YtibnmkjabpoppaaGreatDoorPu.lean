/- strconv.ParseUint is laid on the shelf at this seat. -/
import Derived.Test.YtibnmkjabpoppaaGreatDoorShelf
