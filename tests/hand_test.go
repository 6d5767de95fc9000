package tests

import (
	"math"
	"testing"

	"loop.example/g00610/impl"
)

// The numbers of the document: AtRest, then those for putting, then those for
// taking, up to the last one.
const (
	firstForPutting = 1
	lastForPutting  = 12
	firstForTaking  = 13
	lastAt          = 24
	lastReply       = 4
)

func isForPutting(at int64) bool { return at >= firstForPutting && at <= lastForPutting }

// handAt has no field that is zero but At, so that whatever is not kept, or
// not made zero, shows.
func handAt(at int64) impl.Hand {
	return impl.Hand{At: at, Value: 7, Ring: 2, Ticket: 9, Seen: full(9, 3), Tries: 1, Spare: 4, Again: true, Reply: lastReply}
}

func everyHand() []impl.Hand {
	var all []impl.Hand
	for at := range int64(lastAt + 1) {
		all = append(all, handAt(at))
	}
	return all
}

func everySpare() []int64 {
	var all []int64
	for spare := int64(-1); spare < mostRings; spare++ {
		all = append(all, spare)
	}
	return all
}

// outside are numbers below least and above most.
func outside(least, most int64) []int64 {
	return []int64{math.MinInt64, least - 2, least - 1, most + 1, most + 2, math.MaxInt64}
}

// A handField is one field, numbers that it may have whatever At is, and
// numbers that it may not have.
type handField struct {
	name         string
	of           func(h *impl.Hand) *int64
	right, wrong []int64
}

func handFields() []handField {
	return []handField{
		{"Value", func(h *impl.Hand) *int64 { return &h.Value }, []int64{1, 2, mostValue - 1, mostValue}, outside(0, mostValue)},
		{"Ring", func(h *impl.Hand) *int64 { return &h.Ring }, []int64{0, 1, 14, 15}, outside(0, 15)},
		{"Ticket", func(h *impl.Hand) *int64 { return &h.Ticket }, []int64{0, 1, mostNo - 1, mostNo}, outside(0, mostNo)},
		{"Tries", func(h *impl.Hand) *int64 { return &h.Tries }, []int64{0, 1, 4, 5, mostNo - 1, mostNo}, outside(0, mostNo)},
		{"Spare", func(h *impl.Hand) *int64 { return &h.Spare }, []int64{-1, 0, 1, 14, 15}, outside(-1, 15)},
		{"Reply", func(h *impl.Hand) *int64 { return &h.Reply }, []int64{0, 1, 2, 3, 4}, outside(0, lastReply)},
	}
}

func rightSeens() []impl.Place {
	return []impl.Place{
		{},
		{Safe: true},
		{No: 3},
		{Safe: true, No: mostNo},
		full(0, 1),
		full(mostNo, mostValue),
		{No: 5, Full: true, Value: 8},
	}
}

func wrongSeens() []impl.Place {
	return []impl.Place{
		{Value: 1},
		{Value: -1},
		{Safe: true, No: 3, Value: mostValue},
		{Full: true},
		full(1, -1),
		full(1, mostValue+1),
		{No: -1},
		{No: mostNo + 1},
		full(-1, 1),
		full(mostNo+1, 1),
		{No: math.MinInt64, Full: true, Value: math.MaxInt64},
	}
}

// wrongHands are at that At, and not right by one field each.
func wrongHands(at int64) []impl.Hand {
	var all []impl.Hand
	for _, f := range handFields() {
		for _, number := range f.wrong {
			h := handAt(at)
			*f.of(&h) = number
			all = append(all, h)
		}
	}
	for _, seen := range wrongSeens() {
		h := handAt(at)
		h.Seen = seen
		all = append(all, h)
	}
	if isForPutting(at) {
		h := handAt(at)
		h.Value = 0
		all = append(all, h)
	}
	return all
}

// noHands are all of those, and those of which At is none.
func noHands() []impl.Hand {
	var all []impl.Hand
	for at := range int64(lastAt + 1) {
		all = append(all, wrongHands(at)...)
	}
	for _, at := range outside(0, lastAt) {
		all = append(all, handAt(at), impl.Hand{At: at, Spare: -1})
	}
	return all
}

func checkHandOk(t *testing.T, h impl.Hand, want bool) {
	t.Helper()
	if got := impl.HandOk(h); got != want {
		t.Errorf("HandOk(%+v) = %v", h, got)
	}
}

func checkHand(t *testing.T, name string, got impl.Hand, is bool, want impl.Hand, wantIs bool) {
	t.Helper()
	if got != want || is != wantIs {
		t.Errorf("%s: %+v, %v, not %+v, %v", name, got, is, want, wantIs)
	}
}

func TestHandConstants(t *testing.T) {
	ats := []int64{
		impl.AtRest, impl.AtLast, impl.AtNext, impl.AtHelp, impl.AtPutTicket,
		impl.AtLook, impl.AtHead, impl.AtPut, impl.AtCheck, impl.AtClose,
		impl.AtMake, impl.AtLink, impl.AtSwing, impl.AtFirst, impl.AtTakeTicket,
		impl.AtSee, impl.AtGrab, impl.AtSpoil, impl.AtSkip, impl.AtTail,
		impl.AtFixHead, impl.AtFixTail, impl.AtFixSwap, impl.AtEmpty, impl.AtMove,
	}
	replies := []int64{impl.ReNone, impl.ReDone, impl.ReFull, impl.ReEmpty, impl.ReGot}
	if len(ats) != lastAt+1 || len(replies) != lastReply+1 {
		t.Fatalf("%d of At, %d of Reply", len(ats), len(replies))
	}
	for _, list := range [][]int64{ats, replies} {
		for want, got := range list {
			if got != int64(want) {
				t.Errorf("%d stands where %d does in the document", got, want)
			}
		}
	}
}

func TestHandOkAt(t *testing.T) {
	for at := int64(-40); at <= 40; at++ {
		checkHandOk(t, handAt(at), at >= 0 && at <= lastAt)
	}
	for _, at := range outside(0, lastAt) {
		checkHandOk(t, handAt(at), false)
		checkHandOk(t, impl.Hand{At: at, Spare: -1}, false)
	}
}

func TestHandOkOfTheZeroHand(t *testing.T) {
	checkHandOk(t, impl.Hand{}, true) // its Spare is ring 0
}

func TestHandOkEachField(t *testing.T) {
	for _, h := range everyHand() {
		for _, f := range handFields() {
			for _, number := range f.right {
				one := h
				*f.of(&one) = number
				checkHandOk(t, one, true)
			}
			for _, number := range f.wrong {
				one := h
				*f.of(&one) = number
				checkHandOk(t, one, false)
			}
		}
	}
}

func TestHandOkSeen(t *testing.T) {
	for _, h := range everyHand() {
		for _, seen := range rightSeens() {
			h.Seen = seen
			checkHandOk(t, h, true)
		}
		for _, seen := range wrongSeens() {
			h.Seen = seen
			checkHandOk(t, h, false)
		}
	}
}

func TestHandOkAgain(t *testing.T) {
	for _, again := range []bool{false, true} {
		for _, h := range everyHand() {
			h.Again = again
			checkHandOk(t, h, true)
		}
		for _, h := range noHands() {
			h.Again = again
			checkHandOk(t, h, false)
		}
	}
}

func TestHandOkWithoutAValue(t *testing.T) {
	for _, h := range everyHand() {
		h.Value = 0
		checkHandOk(t, h, !isForPutting(h.At))
		checkHandOk(t, impl.Hand{At: h.At, Spare: -1}, !isForPutting(h.At))
	}
}

// Each limit is met on its own above; here all of them are at once.
func TestHandOkAtAllLimits(t *testing.T) {
	for at := range int64(lastAt + 1) {
		checkHandOk(t, impl.Hand{At: at, Value: mostValue, Ring: 15, Ticket: mostNo, Seen: full(mostNo, mostValue), Tries: mostNo, Spare: 15, Again: true, Reply: lastReply}, true)
	}
}

func TestResting(t *testing.T) {
	want := impl.Hand{At: 0, Value: 0, Ring: 0, Ticket: 0, Seen: impl.Place{}, Tries: 0, Spare: -1, Again: false, Reply: 0}
	if got := impl.Resting(); got != want {
		t.Errorf("Resting() = %+v", got)
	}
	checkHandOk(t, impl.Resting(), true)
	if impl.IsPutting(impl.Resting()) {
		t.Error("one at rest puts")
	}
}

// everyAtRest are at rest with each Spare and each Reply, the other fields
// zero or not.
func everyAtRest() []impl.Hand {
	all := []impl.Hand{impl.Resting(), {}}
	for _, spare := range everySpare() {
		for reply := range int64(lastReply + 1) {
			h := handAt(0)
			h.Spare, h.Reply = spare, reply
			all = append(all, h, impl.Hand{Spare: spare, Reply: reply})
		}
	}
	return all
}

func TestToPutOfOneAtRest(t *testing.T) {
	for _, h := range everyAtRest() {
		for _, value := range []int64{1, 2, 7, 8, mostValue - 1, mostValue} {
			got, is := impl.ToPut(h, value)
			checkHand(t, "ToPut", got, is, impl.Hand{At: 1, Value: value, Spare: h.Spare}, true)
			checkHandOk(t, got, true)
		}
	}
}

func TestToPutOfNoValue(t *testing.T) {
	for _, h := range everyAtRest() {
		for _, value := range outside(1, mostValue) {
			got, is := impl.ToPut(h, value)
			checkHand(t, "ToPut of no value", got, is, h, false)
		}
	}
}

func TestToTakeOfOneAtRest(t *testing.T) {
	for _, h := range everyAtRest() {
		got, is := impl.ToTake(h)
		checkHand(t, "ToTake", got, is, impl.Hand{At: 13, Spare: h.Spare}, true)
		checkHandOk(t, got, true)
	}
}

func TestToPutAndToTakeOfOneNotAtRest(t *testing.T) {
	for _, h := range everyHand()[firstForPutting:] {
		for _, spare := range everySpare() {
			for reply := range int64(lastReply + 1) {
				h.Spare, h.Reply = spare, reply
				for _, value := range []int64{math.MinInt64, -1, 0, 1, 7, 8, mostValue, mostValue + 1, math.MaxInt64} {
					got, is := impl.ToPut(h, value)
					checkHand(t, "ToPut of one not at rest", got, is, h, false)
				}
				got, is := impl.ToTake(h)
				checkHand(t, "ToTake of one not at rest", got, is, h, false)
			}
		}
	}
}

func TestToPutAndToTakeOfWhatIsNoHand(t *testing.T) {
	for _, h := range noHands() {
		for _, value := range []int64{math.MinInt64, -1, 0, 1, 7, mostValue, mostValue + 1, math.MaxInt64} {
			got, is := impl.ToPut(h, value)
			checkHand(t, "ToPut of what is no hand", got, is, impl.Hand{}, false)
		}
		got, is := impl.ToTake(h)
		checkHand(t, "ToTake of what is no hand", got, is, impl.Hand{}, false)
	}
}

func TestIsPutting(t *testing.T) {
	for _, h := range everyHand() {
		for _, value := range []int64{1, 7, mostValue} {
			h.Value = value
			if got := impl.IsPutting(h); got != isForPutting(h.At) {
				t.Errorf("IsPutting(%+v) = %v", h, got)
			}
		}
	}
	for _, h := range noHands() {
		if impl.IsPutting(h) {
			t.Errorf("IsPutting(%+v), which is no hand", h)
		}
	}
}

// Whatever is begun on the way, a hand goes on with what it began first.
func TestWhoPutsIsNoOneWhoTakes(t *testing.T) {
	for _, h := range everyAtRest() {
		puts, _ := impl.ToPut(h, 5)
		takes, _ := impl.ToTake(h)
		if !impl.IsPutting(puts) || impl.IsPutting(takes) || impl.IsPutting(h) {
			t.Fatalf("%+v: %+v, %+v", h, puts, takes)
		}
		for _, one := range []impl.Hand{puts, takes} {
			got, is := impl.ToTake(one)
			checkHand(t, "ToTake of one under way", got, is, one, false)
			got, is = impl.ToPut(one, 6)
			checkHand(t, "ToPut of one under way", got, is, one, false)
		}
	}
}
