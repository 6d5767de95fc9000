package tests

import (
	"math"
	"testing"

	"loop.example/g00610/impl"
)

// The numbers of the document, not the program's constants, so that a wrong
// constant shows.
const (
	mostNo    = 1000000
	mostValue = 1000000
)

func TestPlaceLimits(t *testing.T) {
	if impl.MaxNo != mostNo || impl.MaxValue != mostValue {
		t.Errorf("MaxNo %d, MaxValue %d", impl.MaxNo, impl.MaxValue)
	}
}

func TestPlaceOk(t *testing.T) {
	cases := []struct {
		name  string
		place impl.Place
		want  bool
	}{
		{"zero", impl.Place{}, true},
		{"No in the middle", impl.Place{No: 5}, true},
		{"No met exactly", impl.Place{No: mostNo}, true},
		{"No passed by one", impl.Place{No: mostNo + 1}, false},
		{"No below 0", impl.Place{No: -1}, false},
		{"No greatest", impl.Place{No: math.MaxInt64}, false},
		{"No least", impl.Place{No: math.MinInt64}, false},
		{"Full, Value 1", impl.Place{Full: true, Value: 1}, true},
		{"Full, Value in the middle", impl.Place{No: 5, Full: true, Value: 7}, true},
		{"Full, Value met exactly", impl.Place{Full: true, Value: mostValue}, true},
		{"Full, Value passed by one", impl.Place{Full: true, Value: mostValue + 1}, false},
		{"Full, Value below 0", impl.Place{Full: true, Value: -1}, false},
		{"Full, Value greatest", impl.Place{Full: true, Value: math.MaxInt64}, false},
		{"Full, Value least", impl.Place{Full: true, Value: math.MinInt64}, false},
		{"Full with none", impl.Place{Full: true}, false},
		{"Full, No met exactly", impl.Place{No: mostNo, Full: true, Value: 1}, true},
		{"Full, No passed by one", impl.Place{No: mostNo + 1, Full: true, Value: 1}, false},
		{"Full, No below 0", impl.Place{No: -1, Full: true, Value: 1}, false},
		{"not Full, Value 1", impl.Place{Value: 1}, false},
		{"not Full, Value met exactly", impl.Place{Value: mostValue}, false},
		{"not Full, Value below 0", impl.Place{Value: -1}, false},
	}
	for _, c := range cases {
		for _, safe := range []bool{false, true} {
			p := c.place
			p.Safe = safe
			if got := impl.PlaceOk(p); got != c.want {
				t.Errorf("%s: PlaceOk(%+v) = %v", c.name, p, got)
			}
		}
	}
}

func TestSwappedWhereSeenInAll(t *testing.T) {
	to := impl.Place{Safe: true, No: 9, Full: true, Value: 8}
	places := []impl.Place{
		{},
		{Safe: true, No: 3},
		{No: 3},
		{Safe: true, No: 3, Full: true, Value: 7},
		{No: mostNo, Full: true, Value: mostValue},
		to,
		{No: -1, Value: -1}, // no right place, yet seen in all
	}
	for _, p := range places {
		if got, done := impl.Swapped(p, p, to); !done || got != to {
			t.Errorf("Swapped(%+v) = %+v, %v", p, got, done)
		}
		if got, done := impl.Swapped(p, p, impl.Place{}); !done || got != (impl.Place{}) {
			t.Errorf("Swapped(%+v) to zero = %+v, %v", p, got, done)
		}
	}
}

func TestSwappedToWhatIsNotRight(t *testing.T) {
	p := impl.Place{Safe: true, No: 3}
	to := impl.Place{No: mostNo + 1, Full: true}
	if got, done := impl.Swapped(p, p, to); !done || got != to {
		t.Errorf("Swapped = %+v, %v", got, done)
	}
}

func TestSwappedWhereOneFieldDiffers(t *testing.T) {
	full := impl.Place{Safe: true, No: 3, Full: true, Value: 7}
	to := impl.Place{Safe: true, No: 9, Full: true, Value: 8}
	cases := []struct {
		name string
		seen impl.Place
	}{
		{"Safe", impl.Place{Safe: false, No: 3, Full: true, Value: 7}},
		{"No, one more", impl.Place{Safe: true, No: 4, Full: true, Value: 7}},
		{"No, one less", impl.Place{Safe: true, No: 2, Full: true, Value: 7}},
		{"Full", impl.Place{Safe: true, No: 3, Full: false, Value: 7}},
		{"Value, one more", impl.Place{Safe: true, No: 3, Full: true, Value: 8}},
		{"Value, one less", impl.Place{Safe: true, No: 3, Full: true, Value: 6}},
		{"all", impl.Place{}},
		{"it is to", to},
	}
	for _, c := range cases {
		if got, done := impl.Swapped(full, c.seen, to); done || got != full {
			t.Errorf("%s: Swapped(%+v, %+v) = %+v, %v", c.name, full, c.seen, got, done)
		}
		if got, done := impl.Swapped(c.seen, full, to); done || got != c.seen {
			t.Errorf("%s: Swapped(%+v, %+v) = %+v, %v", c.name, c.seen, full, got, done)
		}
	}
}

func TestSwappedIsAllOrNothing(t *testing.T) {
	all := somePlaces()
	for _, p := range all {
		for _, seen := range all {
			for _, to := range all {
				want, wantDone := p, false
				if p.Safe == seen.Safe && p.No == seen.No && p.Full == seen.Full && p.Value == seen.Value {
					want, wantDone = to, true
				}
				if got, done := impl.Swapped(p, seen, to); got != want || done != wantDone {
					t.Fatalf("Swapped(%+v, %+v, %+v) = %+v, %v", p, seen, to, got, done)
				}
			}
		}
	}
}

// somePlaces gives right places and wrong ones, every flag with every number.
func somePlaces() []impl.Place {
	var all []impl.Place
	for _, safe := range []bool{false, true} {
		for _, full := range []bool{false, true} {
			for _, no := range []int64{-1, 0, 1, mostNo} {
				for _, value := range []int64{-1, 0, 1, mostValue} {
					all = append(all, impl.Place{Safe: safe, No: no, Full: full, Value: value})
				}
			}
		}
	}
	return all
}

func TestMayPut(t *testing.T) {
	cases := []struct {
		name   string
		place  impl.Place
		ticket int64
		want   bool
	}{
		{"No less than ticket", impl.Place{No: 3}, 4, true},
		{"No far less than ticket", impl.Place{No: 0}, mostNo, true},
		{"No equal to ticket", impl.Place{No: 3}, 3, true},
		{"No and ticket 0", impl.Place{}, 0, true},
		{"No more than ticket", impl.Place{No: 3}, 2, false},
		{"No far more than ticket", impl.Place{No: mostNo}, 0, false},
		{"Full, No less than ticket", impl.Place{No: 3, Full: true, Value: 7}, 4, false},
		{"Full, No equal to ticket", impl.Place{No: 3, Full: true, Value: 7}, 3, false},
		{"Full, No more than ticket", impl.Place{No: 3, Full: true, Value: 7}, 2, false},
		{"ticket below 0", impl.Place{}, -1, false},
		{"ticket least", impl.Place{}, math.MinInt64, false},
		{"ticket greatest", impl.Place{No: mostNo}, math.MaxInt64, true},
		{"No and ticket at the two ends", impl.Place{No: math.MinInt64}, math.MaxInt64, true},
	}
	for _, c := range cases {
		for _, safe := range []bool{false, true} {
			p := c.place
			p.Safe = safe
			if got := impl.MayPut(p, c.ticket); got != c.want {
				t.Errorf("%s: MayPut(%+v, %d) = %v", c.name, p, c.ticket, got)
			}
		}
	}
}

func TestLeft(t *testing.T) {
	cases := []struct {
		name          string
		place         impl.Place
		ticket, round int64
		want          int64
	}{
		{"Full", impl.Place{No: 3, Full: true, Value: 7}, 3, 4, 7},
		{"not Full", impl.Place{No: 3}, 3, 4, 7},
		{"No is not ticket", impl.Place{No: 1, Full: true, Value: 7}, 5, 2, 7},
		{"ticket 0", impl.Place{}, 0, 8, 8},
		{"round 0", impl.Place{No: 2}, 6, 0, 6},
		{"ticket met exactly", impl.Place{No: 2, Full: true, Value: mostValue}, mostNo, 2, mostNo + 2},
		{"ticket below 0", impl.Place{No: 2}, -3, 2, -1},
		{"not a right place", impl.Place{No: -1, Value: -5}, 1, 2, 3},
	}
	for _, c := range cases {
		for _, safe := range []bool{false, true} {
			p := c.place
			p.Safe = safe
			want := impl.Place{Safe: safe, No: c.want}
			if got := impl.Left(p, c.ticket, c.round); got != want {
				t.Errorf("%s: Left(%+v, %d, %d) = %+v", c.name, p, c.ticket, c.round, got)
			}
		}
	}
}

// No argument may panic, not even where ticket and round leave the numbers.
func TestLeftAnswersAtTheEnds(t *testing.T) {
	ends := []int64{math.MinInt64, -1, 0, 1, math.MaxInt64}
	for _, ticket := range ends {
		for _, round := range ends {
			got := impl.Left(impl.Place{Safe: true, Full: true, Value: 7}, ticket, round)
			if got.Full || got.Value != 0 || !got.Safe {
				t.Errorf("Left(%d, %d) = %+v", ticket, round, got)
			}
		}
	}
}
