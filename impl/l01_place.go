package impl

const MaxNo = 1000000
const MaxValue = 1000000

type Place struct {
	Safe  bool
	No    int64
	Full  bool
	Value int64
}

func isNo(no int64) bool { return no >= 0 && no <= MaxNo }

func isValue(value int64) bool { return value >= 1 && value <= MaxValue }

// A place that is not Full must hold 0: a forgotten Value would make two
// empty places differ, and Swapped would refuse what was seen rightly.
func PlaceOk(p Place) bool {
	if !p.Full {
		return isNo(p.No) && p.Value == 0
	}
	return isNo(p.No) && isValue(p.Value)
}

// The whole struct is compared: whoever changed one field alone since it was
// seen has changed the place.
func Swapped(p Place, seen Place, to Place) (Place, bool) {
	if p != seen {
		return p, false
	}
	return to, true
}

// A No above ticket means that a taker has given up this ticket already.
func MayPut(p Place, ticket int64) bool { return !p.Full && p.No <= ticket }

// The next number that comes to this place is one round on; a place that is
// not Safe stays so, since leaving it does not undo the sign on it.
func Left(p Place, ticket int64, round int64) Place {
	return Place{Safe: p.Safe, No: ticket + round}
}
