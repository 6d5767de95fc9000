package tests

import (
	"math"
	"slices"
	"testing"

	"loop.example/g00610/impl"
)

// numberedRing is built here, not by NewRing, so that RingOk is tested alone.
func numberedRing(n int64) impl.Ring {
	r := impl.Ring{Next: -1}
	for i := range n {
		r.Places = append(r.Places, impl.Place{Safe: true, No: i})
	}
	return r
}

func sameRing(a, b impl.Ring) bool {
	return a.Head == b.Head && a.Tail == b.Tail && a.Closed == b.Closed && a.Next == b.Next && slices.Equal(a.Places, b.Places)
}

func checkRingOk(t *testing.T, name string, r impl.Ring, want bool) {
	t.Helper()
	if got := impl.RingOk(r); got != want {
		t.Errorf("%s: RingOk(%+v) = %v", name, r, got)
	}
}

func TestRingOkCountsPlaces(t *testing.T) {
	for n := int64(0); n <= 20; n++ {
		checkRingOk(t, "how many", numberedRing(n), n >= 2 && n <= 8)
	}
	checkRingOk(t, "an empty list", impl.Ring{Next: -1, Places: []impl.Place{}}, false)
	checkRingOk(t, "the zero ring", impl.Ring{}, false)
}

func TestRingOkAsksEachPlace(t *testing.T) {
	wrong := []struct {
		name  string
		place impl.Place
	}{
		{"Value where it is not Full", impl.Place{Safe: true, Value: 1}},
		{"Full with none", impl.Place{Safe: true, Full: true}},
		{"Value below 0", impl.Place{Full: true, Value: -1}},
		{"Value passed by one", impl.Place{Full: true, Value: mostValue + 1}},
	}
	for n := int64(2); n <= 8; n++ {
		for i := range n {
			for _, w := range wrong {
				r := numberedRing(n)
				r.Places[i] = w.place
				r.Places[i].No = i
				checkRingOk(t, w.name, r, false)
			}
			r := numberedRing(n)
			r.Places[i] = impl.Place{No: i, Full: true, Value: mostValue}
			checkRingOk(t, "Full, not Safe", r, true)
		}
	}
}

func TestRingOkAsksEachNo(t *testing.T) {
	for n := int64(2); n <= 8; n++ {
		for i := range n {
			for no := -2 * n; no <= 4*n; no++ {
				r := numberedRing(n)
				r.Places[i].No = no
				checkRingOk(t, "No", r, no >= 0 && no%n == i)
			}
		}
	}
}

func TestRingOkAtTheLastNo(t *testing.T) {
	for n := int64(2); n <= 8; n++ {
		r := numberedRing(n)
		r.Places[mostNo%n].No = mostNo
		checkRingOk(t, "No met exactly", r, true)
		r = numberedRing(n)
		r.Places[(mostNo+1)%n].No = mostNo + 1
		checkRingOk(t, "No passed by one", r, false)
		r = numberedRing(n)
		r.Places[math.MaxInt64%n].No = math.MaxInt64
		checkRingOk(t, "No greatest", r, false)
		r = numberedRing(n)
		r.Places[0].No = math.MinInt64
		checkRingOk(t, "No least", r, false)
	}
}

func TestRingOkTakesPlacesOfDifferentRounds(t *testing.T) {
	r := numberedRing(3)
	r.Places[0].No = 30
	r.Places[1].No = 4
	checkRingOk(t, "rounds on", r, true)
	r.Places[0].No, r.Places[1].No = 1, 0
	checkRingOk(t, "two in each other's place", r, false)
}

func TestRingOkHeadAndTail(t *testing.T) {
	numbers := []int64{math.MinInt64, -1, 0, 1, 7, mostNo - 1, mostNo, mostNo + 1, math.MaxInt64}
	for _, head := range numbers {
		for _, tail := range numbers {
			r := numberedRing(3)
			r.Head, r.Tail = head, tail
			want := head >= 0 && head <= mostNo && tail >= 0 && tail <= mostNo
			checkRingOk(t, "Head and Tail", r, want)
		}
	}
}

func TestRingOkNext(t *testing.T) {
	nexts := []int64{math.MinInt64, -3, -2, 16, 17, math.MaxInt64}
	for next := int64(-1); next <= 15; next++ {
		nexts = append(nexts, next)
	}
	for _, next := range nexts {
		r := numberedRing(2)
		r.Next = next
		checkRingOk(t, "not Closed", r, next == -1)
		r.Closed = true
		checkRingOk(t, "Closed", r, next >= -1 && next <= 15)
	}
}

func TestNewRing(t *testing.T) {
	for n := int64(2); n <= 8; n++ {
		r, is := impl.NewRing(n)
		if !is || !sameRing(r, numberedRing(n)) || !impl.RingOk(r) {
			t.Errorf("NewRing(%d) = %+v, %v", n, r, is)
		}
	}
}

func TestNewRingOutOfRange(t *testing.T) {
	for _, n := range []int64{math.MinInt64, -8, -2, -1, 0, 1, 9, 10, math.MaxInt64} {
		if r, is := impl.NewRing(n); is || !sameRing(r, impl.Ring{}) {
			t.Errorf("NewRing(%d) = %+v, %v", n, r, is)
		}
	}
}

func TestSeeded(t *testing.T) {
	for n := int64(2); n <= 8; n++ {
		for _, value := range []int64{1, 2, 9, mostValue - 1, mostValue} {
			want := numberedRing(n)
			want.Tail = 1
			want.Places[0] = impl.Place{Safe: true, Full: true, Value: value}
			r, is := impl.Seeded(n, value)
			if !is || !sameRing(r, want) || !impl.RingOk(r) {
				t.Errorf("Seeded(%d, %d) = %+v, %v", n, value, r, is)
			}
		}
	}
}

func TestSeededOutOfRange(t *testing.T) {
	rounds := []int64{math.MinInt64, -1, 0, 1, 2, 8, 9, math.MaxInt64}
	values := []int64{math.MinInt64, -1, 0, 1, mostValue, mostValue + 1, math.MaxInt64}
	for _, n := range rounds {
		for _, value := range values {
			want := n >= 2 && n <= 8 && value >= 1 && value <= mostValue
			r, is := impl.Seeded(n, value)
			if is != want || !is && !sameRing(r, impl.Ring{}) {
				t.Errorf("Seeded(%d, %d) = %+v, %v", n, value, r, is)
			}
		}
	}
}

func TestRingsShareNoMemory(t *testing.T) {
	makers := map[string]func() (impl.Ring, bool){
		"NewRing": func() (impl.Ring, bool) { return impl.NewRing(4) },
		"Seeded":  func() (impl.Ring, bool) { return impl.Seeded(4, 9) },
	}
	for name, makeRing := range makers {
		first, _ := makeRing()
		kept := slices.Clone(first.Places)
		second, _ := makeRing()
		spoil(second.Places)
		if !slices.Equal(first.Places, kept) {
			t.Errorf("%s: two answers share memory", name)
		}
		if third, _ := makeRing(); !slices.Equal(third.Places, kept) {
			t.Errorf("%s: a later answer is %+v", name, third)
		}
	}
}

// spoil writes into the spare room too, which no two answers may share either.
func spoil(places []impl.Place) {
	places = places[:cap(places)]
	for i := range places {
		places[i] = impl.Place{No: -7, Value: -7}
	}
}

func TestPlaceAt(t *testing.T) {
	for n := int64(2); n <= 8; n++ {
		r := numberedRing(n)
		at := int64(0)
		for ticket := int64(0); ticket <= 5*n; ticket++ {
			if got := impl.PlaceAt(r, ticket); got != at {
				t.Errorf("PlaceAt of %d places, ticket %d = %d", n, ticket, got)
			}
			at++
			if at == n {
				at = 0
			}
		}
	}
}

func TestPlaceAtTheEnds(t *testing.T) {
	for n := int64(2); n <= 8; n++ {
		r := numberedRing(n)
		for _, ticket := range []int64{mostNo - 1, mostNo} {
			if got := impl.PlaceAt(r, ticket); got != ticket%n {
				t.Errorf("PlaceAt of %d places, ticket %d = %d", n, ticket, got)
			}
		}
		for _, ticket := range []int64{math.MinInt64, -n, -1, mostNo + 1, mostNo + n, math.MaxInt64} {
			if got := impl.PlaceAt(r, ticket); got != -1 {
				t.Errorf("PlaceAt of %d places, ticket %d = %d", n, ticket, got)
			}
		}
	}
}

// Head, Tail and what stands on the places say nothing of where a number is.
func TestPlaceAtOfARingInUse(t *testing.T) {
	r := numberedRing(3)
	r.Head, r.Tail, r.Closed, r.Next = 5, 9, true, 15
	r.Places[2] = impl.Place{No: 5, Full: true, Value: 4}
	if got := impl.PlaceAt(r, 7); got != 1 {
		t.Errorf("PlaceAt = %d", got)
	}
}

func TestPlaceAtOfWhatIsNoRing(t *testing.T) {
	cases := []struct {
		name  string
		wrong func(r *impl.Ring)
	}{
		{"zero", func(r *impl.Ring) { *r = impl.Ring{} }},
		{"no places", func(r *impl.Ring) { r.Places = nil }},
		{"one place", func(r *impl.Ring) { *r = numberedRing(1) }},
		{"nine places", func(r *impl.Ring) { *r = numberedRing(9) }},
		{"a place that is not right", func(r *impl.Ring) { r.Places[1].Value = 3 }},
		{"another place's No", func(r *impl.Ring) { r.Places[1].No = 2 }},
		{"Head below 0", func(r *impl.Ring) { r.Head = -1 }},
		{"Tail passed by one", func(r *impl.Ring) { r.Tail = mostNo + 1 }},
		{"linked, not Closed", func(r *impl.Ring) { r.Next = 0 }},
	}
	for _, c := range cases {
		r := numberedRing(3)
		c.wrong(&r)
		for _, ticket := range []int64{-1, 0, 1, 7, mostNo, mostNo + 1} {
			if got := impl.PlaceAt(r, ticket); got != -1 {
				t.Errorf("%s: PlaceAt(%+v, %d) = %d", c.name, r, ticket, got)
			}
		}
	}
}

func TestRingArgumentsStay(t *testing.T) {
	for _, wrong := range []bool{false, true} {
		behind := impl.Place{No: 77, Full: true, Value: 5}
		places := append(numberedRing(3).Places, behind)
		places[1].No = 4
		if wrong {
			places[2].Value = 6
		}
		kept := slices.Clone(places)
		r := impl.Ring{Head: 2, Tail: 3, Closed: true, Next: 1, Places: places[:3]}
		impl.RingOk(r)
		impl.PlaceAt(r, 5)
		impl.PlaceAt(r, -1)
		if !slices.Equal(places, kept) {
			t.Errorf("the argument is now %+v", places)
		}
	}
}
