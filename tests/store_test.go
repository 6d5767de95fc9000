package tests

import (
	"math"
	"slices"
	"testing"

	"loop.example/g00610/impl"
)

const mostRings = 16

// linkedStore is built here, not by NewStore, so that StoreOk is tested alone;
// the ring at i has nexts[i] behind it.
func linkedStore(round, most int64, nexts ...int64) impl.Store {
	s := impl.Store{Round: round, Most: most}
	for _, next := range nexts {
		r := numberedRing(round)
		r.Next = next
		r.Closed = next != -1
		s.Rings = append(s.Rings, r)
	}
	return s
}

// looseRings are the nexts of that many rings that are not linked.
func looseRings(n int64) []int64 {
	return slices.Repeat([]int64{-1}, int(n))
}

func sameStore(a, b impl.Store) bool {
	return a.Round == b.Round && a.Most == b.Most && a.First == b.First && a.Last == b.Last && slices.EqualFunc(a.Rings, b.Rings, sameRing)
}

// copied shares nothing with s, so that a change of s shows against it.
func copied(s impl.Store) impl.Store {
	s.Rings = slices.Clone(s.Rings)
	for i := range s.Rings {
		s.Rings[i].Places = slices.Clone(s.Rings[i].Places)
	}
	return s
}

func full(no, value int64) impl.Place {
	return impl.Place{Safe: true, No: no, Full: true, Value: value}
}

func checkStoreOk(t *testing.T, name string, s impl.Store, want bool) {
	t.Helper()
	if got := impl.StoreOk(s); got != want {
		t.Errorf("%s: StoreOk(%+v) = %v", name, s, got)
	}
}

func checkList(t *testing.T, name string, got, want []int64) {
	t.Helper()
	if !slices.Equal(got, want) {
		t.Errorf("%s: %v, not %v", name, got, want)
	}
}

func TestStoreLimits(t *testing.T) {
	if impl.MaxRings != mostRings {
		t.Errorf("MaxRings %d", impl.MaxRings)
	}
}

func TestStoreOkRound(t *testing.T) {
	for round := int64(0); round <= 20; round++ {
		checkStoreOk(t, "Round", linkedStore(round, 3, -1), round >= 2 && round <= 8)
	}
	for _, round := range []int64{math.MinInt64, -2, -1, 0, 1, 9, math.MaxInt64} {
		s := linkedStore(2, 3, -1)
		s.Round = round
		checkStoreOk(t, "Round out of range", s, false)
	}
	checkStoreOk(t, "the zero store", impl.Store{}, false)
}

func TestStoreOkMost(t *testing.T) {
	for most := int64(-2); most <= 20; most++ {
		checkStoreOk(t, "Most", linkedStore(2, most, -1), most >= 1 && most <= mostRings)
	}
	for _, most := range []int64{math.MinInt64, math.MaxInt64} {
		checkStoreOk(t, "Most at the ends", linkedStore(2, most, -1), false)
	}
}

func TestStoreOkCountsRings(t *testing.T) {
	for most := int64(1); most <= mostRings; most++ {
		for n := int64(0); n <= mostRings+2; n++ {
			s := linkedStore(2, most, looseRings(n)...)
			checkStoreOk(t, "how many", s, n >= 1 && n <= most)
		}
	}
	checkStoreOk(t, "an empty list", impl.Store{Round: 2, Most: 3, Rings: []impl.Ring{}}, false)
}

func TestStoreOkOfVeryManyRings(t *testing.T) {
	checkStoreOk(t, "very many", linkedStore(2, mostRings, looseRings(20000)...), false)
}

func TestStoreOkAsksEachRing(t *testing.T) {
	wrong := []struct {
		name string
		make func(r *impl.Ring)
	}{
		{"the zero ring", func(r *impl.Ring) { *r = impl.Ring{} }},
		{"no places", func(r *impl.Ring) { r.Places = nil }},
		{"a place that is not right", func(r *impl.Ring) { r.Places[1].Value = 3 }},
		{"another place's No", func(r *impl.Ring) { r.Places[0].No = 1 }},
		{"Head below 0", func(r *impl.Ring) { r.Head = -1 }},
		{"Tail passed by one", func(r *impl.Ring) { r.Tail = mostNo + 1 }},
		{"Next below -1", func(r *impl.Ring) { r.Closed, r.Next = true, -2 }},
		{"Next least", func(r *impl.Ring) { r.Closed, r.Next = true, math.MinInt64 }},
		{"a place less", func(r *impl.Ring) { r.Places = r.Places[:2] }},
		{"a place more", func(r *impl.Ring) { r.Places = numberedRing(4).Places }},
	}
	for at := range 4 { // 0 to 2 are on the chain, 3 is off it
		for _, w := range wrong {
			s := linkedStore(3, 4, 1, 2, -1, -1)
			checkStoreOk(t, "ahead of "+w.name, s, true)
			w.make(&s.Rings[at])
			checkStoreOk(t, w.name, s, false)
		}
	}
}

func TestStoreOkLinkedNotClosed(t *testing.T) {
	s := linkedStore(3, 4, 1, -1)
	s.Rings[0].Closed = false
	checkStoreOk(t, "linked, not Closed", s, false)
	s.Rings[0].Next = -1
	checkStoreOk(t, "neither", s, true)
	s.Rings[1].Closed = true
	checkStoreOk(t, "Closed, not linked", s, true)
}

func TestStoreOkRingsInUse(t *testing.T) {
	s := linkedStore(2, 2, 1, -1)
	s.Rings[0].Head, s.Rings[0].Tail = 5, mostNo
	s.Rings[0].Places = []impl.Place{full(4, 9), {No: 3}}
	s.Rings[1].Head = mostNo
	checkStoreOk(t, "in use", s, true)
}

func TestStoreOkPlacesAreRound(t *testing.T) {
	for round := int64(2); round <= 8; round++ {
		for n := int64(2); n <= 8; n++ {
			s := linkedStore(round, 2, -1, -1)
			s.Rings[1] = numberedRing(n)
			checkStoreOk(t, "a right ring of another round", s, n == round)
		}
	}
}

func TestStoreOkFirstAndLast(t *testing.T) {
	for n := int64(1); n <= mostRings; n++ {
		for _, at := range []int64{math.MinInt64, -2, -1, 0, n - 1, n, n + 1, math.MaxInt64} {
			want := at >= 0 && at < n
			s := linkedStore(2, mostRings, looseRings(n)...)
			s.First = at
			checkStoreOk(t, "First", s, want)
			s = linkedStore(2, mostRings, looseRings(n)...)
			s.Last = at
			checkStoreOk(t, "Last", s, want)
		}
	}
}

func TestStoreOkNextIsARingThereIs(t *testing.T) {
	for n := int64(1); n <= mostRings; n++ {
		for at := range n {
			for _, next := range []int64{n, n + 1, 15, 16, 17, math.MaxInt64} {
				s := linkedStore(2, mostRings, looseRings(n)...)
				s.Rings[at].Closed, s.Rings[at].Next = true, next
				checkStoreOk(t, "Next", s, next < n && next != at)
			}
		}
	}
}

func TestStoreOkNextIsNotTheRingItself(t *testing.T) {
	for n := int64(1); n <= mostRings; n++ {
		for at := range n {
			s := linkedStore(2, mostRings, looseRings(n)...)
			s.Rings[at].Closed, s.Rings[at].Next = true, at
			checkStoreOk(t, "its own Next", s, false)
		}
	}
}

func TestStoreOkRoundAndRound(t *testing.T) {
	cases := []struct {
		name  string
		nexts []int64
		want  bool
	}{
		{"a chain", []int64{1, 2, -1}, true},
		{"a chain backwards, off First", []int64{-1, 0, 1}, true},
		{"two lead to one", []int64{2, 2, -1}, true},
		{"two chains", []int64{1, -1, 3, -1}, true},
		{"back to First", []int64{1, 2, 0}, false},
		{"back to the midst", []int64{1, 2, 1}, false},
		{"off the chain", []int64{-1, 2, 1}, false},
		{"off a linked chain", []int64{1, -1, 3, 4, 2}, false},
		{"off the chain, and one leads there", []int64{-1, 2, 3, 2}, false},
	}
	for _, c := range cases {
		checkStoreOk(t, c.name, linkedStore(3, 5, c.nexts...), c.want)
	}
}

func TestStoreOkRoundAndRoundOfAll(t *testing.T) {
	nexts := make([]int64, mostRings)
	for i := range nexts {
		nexts[i] = int64(i) + 1
	}
	nexts[mostRings-1] = -1
	checkStoreOk(t, "the longest chain", linkedStore(2, mostRings, nexts...), true)
	for back := range int64(mostRings) {
		nexts[mostRings-1] = back
		checkStoreOk(t, "back again", linkedStore(2, mostRings, nexts...), false)
	}
}

// walk goes from ring to ring by the document's words alone; false where a
// Next is no ring there is, or a ring comes twice.
func walk(nexts []int64, from int64) ([]int64, bool) {
	met := map[int64]bool{}
	var chain []int64
	for from != -1 {
		if met[from] || from < 0 || from >= int64(len(nexts)) {
			return nil, false
		}
		met[from] = true
		chain = append(chain, from)
		from = nexts[from]
	}
	return chain, true
}

func everyWalkEnds(nexts []int64) bool {
	for from := range nexts {
		if _, ends := walk(nexts, int64(from)); !ends {
			return false
		}
	}
	return true
}

// everyLinks calls with each way to link n rings, a ring too many among them.
func everyLinks(n int64, with func(nexts []int64)) {
	nexts := looseRings(n)
	for {
		with(slices.Clone(nexts))
		at := 0
		for at < len(nexts) && nexts[at] == n {
			nexts[at] = -1
			at++
		}
		if at == len(nexts) {
			return
		}
		nexts[at]++
	}
}

func TestStoreOkAndChainOfEveryLinks(t *testing.T) {
	for n := int64(1); n <= 5; n++ {
		everyLinks(n, func(nexts []int64) {
			right := everyWalkEnds(nexts)
			s := linkedStore(2, 5, nexts...)
			for first := range n {
				s.First, s.Last = first, n-1-first
				var want []int64
				if right {
					want, _ = walk(nexts, first)
				}
				if is, chain := impl.StoreOk(s), impl.ChainOf(s); is != right || !slices.Equal(chain, want) {
					t.Fatalf("nexts %v, First %d: StoreOk %v, ChainOf %v", nexts, first, is, chain)
				}
			}
		})
	}
}

func TestNewStore(t *testing.T) {
	for round := int64(2); round <= 8; round++ {
		for most := int64(1); most <= mostRings; most++ {
			s, is := impl.NewStore(round, most)
			if !is || !sameStore(s, linkedStore(round, most, -1)) || !impl.StoreOk(s) {
				t.Errorf("NewStore(%d, %d) = %+v, %v", round, most, s, is)
			}
			checkList(t, "ChainOf a new store", impl.ChainOf(s), []int64{0})
			checkList(t, "ValuesIn a new store", impl.ValuesIn(s), nil)
		}
	}
}

func TestNewStoreOutOfRange(t *testing.T) {
	rounds := []int64{math.MinInt64, -2, -1, 0, 1, 2, 8, 9, 10, math.MaxInt64}
	mosts := []int64{math.MinInt64, -16, -1, 0, 1, 16, 17, 18, math.MaxInt64}
	for _, round := range rounds {
		for _, most := range mosts {
			want := round >= 2 && round <= 8 && most >= 1 && most <= mostRings
			s, is := impl.NewStore(round, most)
			if is != want || !is && !sameStore(s, impl.Store{}) {
				t.Errorf("NewStore(%d, %d) = %+v, %v", round, most, s, is)
			}
		}
	}
}

func TestNewStoresShareNoMemory(t *testing.T) {
	first, _ := impl.NewStore(4, 5)
	kept := copied(first)
	second, _ := impl.NewStore(4, 5)
	spoilStore(second)
	if !sameStore(first, kept) {
		t.Errorf("two answers share memory: %+v", first)
	}
	if third, _ := impl.NewStore(4, 5); !sameStore(third, kept) {
		t.Errorf("a later answer is %+v", third)
	}
}

// spoilStore writes into the spare room too, as spoil does.
func spoilStore(s impl.Store) {
	rings := s.Rings[:cap(s.Rings)]
	for i := range rings {
		spoil(rings[i].Places)
		rings[i] = impl.Ring{Head: -7, Next: -7}
	}
}

func TestChainOf(t *testing.T) {
	cases := []struct {
		name  string
		first int64
		nexts []int64
		want  []int64
	}{
		{"one ring", 0, []int64{-1}, []int64{0}},
		{"in the order of the list", 0, []int64{1, 2, -1}, []int64{0, 1, 2}},
		{"backwards", 2, []int64{-1, 0, 1}, []int64{2, 1, 0}},
		{"to and fro", 1, []int64{2, 3, -1, 0}, []int64{1, 3, 0, 2}},
		{"First in the midst", 3, []int64{2, 3, -1, 0}, []int64{3, 0, 2}},
		{"First at the end", 2, []int64{2, 3, -1, 0}, []int64{2}},
		{"First off the others", 1, []int64{2, -1, -1}, []int64{1}},
	}
	for _, c := range cases {
		s := linkedStore(2, 6, c.nexts...)
		for last := range s.Rings { // Last has no part in it
			s.First, s.Last = c.first, int64(last)
			checkList(t, c.name, impl.ChainOf(s), c.want)
		}
	}
}

// wrongStores are near to right ones, each with a value on every ring.
func wrongStores() map[string]impl.Store {
	change := map[string]func(s *impl.Store){
		"zero":             func(s *impl.Store) { *s = impl.Store{} },
		"Round":            func(s *impl.Store) { s.Round = 3 },
		"Most 0":           func(s *impl.Store) { s.Most = 0 },
		"Most 17":          func(s *impl.Store) { s.Most = 17 },
		"more than Most":   func(s *impl.Store) { s.Most = 2 },
		"no rings":         func(s *impl.Store) { s.Rings = nil },
		"First below 0":    func(s *impl.Store) { s.First = -1 },
		"First past it":    func(s *impl.Store) { s.First = 3 },
		"Last below 0":     func(s *impl.Store) { s.Last = -1 },
		"Last past it":     func(s *impl.Store) { s.Last = 3 },
		"a ring":           func(s *impl.Store) { s.Rings[1].Head = -1 },
		"a ring off it":    func(s *impl.Store) { s.Rings[2].Places[1].Value = 4 },
		"no such Next":     func(s *impl.Store) { s.Rings[1].Closed, s.Rings[1].Next = true, 3 },
		"its own Next":     func(s *impl.Store) { s.Rings[1].Closed, s.Rings[1].Next = true, 1 },
		"round and round":  func(s *impl.Store) { s.Rings[1].Closed, s.Rings[1].Next = true, 0 },
		"round, off First": func(s *impl.Store) { s.Rings[2].Closed, s.Rings[2].Next = true, 2 },
	}
	all := map[string]impl.Store{}
	for name, wrong := range change {
		s := linkedStore(2, 3, 1, -1, -1)
		for i := range s.Rings {
			s.Rings[i].Places[0] = full(0, 7)
		}
		wrong(&s)
		all[name] = s
	}
	return all
}

func TestNothingOfWhatIsNoStore(t *testing.T) {
	for name, s := range wrongStores() {
		checkStoreOk(t, name, s, false)
		checkList(t, "ChainOf, "+name, impl.ChainOf(s), nil)
		checkList(t, "ValuesIn, "+name, impl.ValuesIn(s), nil)
	}
}

func TestValuesInOneRing(t *testing.T) {
	cases := []struct {
		name   string
		places []impl.Place
		want   []int64
	}{
		{"none", []impl.Place{{No: 0}, {No: 4}, {No: 2}}, nil},
		{"as they stand", []impl.Place{full(0, 9), full(1, 8), full(2, 7)}, []int64{9, 8, 7}},
		{"by No", []impl.Place{full(6, 9), full(4, 8), full(2, 7)}, []int64{7, 8, 9}},
		{"by No, the first in the midst", []impl.Place{full(3, 9), full(1, 8), full(5, 7)}, []int64{8, 9, 7}},
		{"by No as a number", []impl.Place{full(9, 1), full(10, 2), full(8, 3)}, []int64{3, 1, 2}},
		{"the greatest No", []impl.Place{full(mostNo-1, 5), full(mostNo, mostValue), full(2, 1)}, []int64{1, 5, mostValue}},
		{"an empty place between", []impl.Place{full(3, 9), {Safe: true, No: 4}, full(2, 7)}, []int64{7, 9}},
		{"not Safe", []impl.Place{{No: 3, Full: true, Value: 9}, full(1, 8), {No: 2}}, []int64{8, 9}},
		{"one value on all", []impl.Place{full(0, 5), full(1, 5), full(2, 5)}, []int64{5, 5, 5}},
	}
	for _, c := range cases {
		s := linkedStore(3, 1, -1)
		s.Rings[0].Places = c.places
		checkList(t, c.name, impl.ValuesIn(s), c.want)
		s.Rings[0].Head, s.Rings[0].Tail, s.Rings[0].Closed = mostNo, 1, true
		checkList(t, c.name+", whatever else the ring has", impl.ValuesIn(s), c.want)
	}
}

// byRisingNo looks for each No in turn, where the program sorts.
func byRisingNo(places []impl.Place, mostRounds int64) []int64 {
	var values []int64
	for no := range mostRounds * int64(len(places)) {
		for _, p := range places {
			if p.No == no && p.Full {
				values = append(values, p.Value)
			}
		}
	}
	return values
}

func TestValuesInByEveryNo(t *testing.T) {
	const round, mostRounds = 4, 3
	s := linkedStore(round, 1, -1)
	places := s.Rings[0].Places
	for way := range 6 * 6 * 6 * 6 { // each place in one of three rounds, Full or not
		rest := way
		for i := range places {
			places[i] = impl.Place{No: int64(rest%3)*round + int64(i)}
			if rest%6 >= 3 {
				places[i].Full, places[i].Value = true, 100+int64(i)
			}
			rest /= 6
		}
		if got, want := impl.ValuesIn(s), byRisingNo(places, mostRounds); !slices.Equal(got, want) {
			t.Fatalf("ValuesIn %+v = %v, not %v", places, got, want)
		}
	}
}

func TestValuesInSeveralRings(t *testing.T) {
	s := linkedStore(2, 6, 2, 3, -1, 0, -1, 0)
	s.Rings[0].Places = []impl.Place{full(8, 12), full(7, 11)}
	s.Rings[1].Places = []impl.Place{full(2, 32), full(1, 31)}
	s.Rings[2].Places = []impl.Place{full(0, 21), {No: 1}}
	s.Rings[4].Places = []impl.Place{full(0, 41), full(1, 42)}
	s.Rings[5].Places = []impl.Place{full(0, 51), full(1, 52)}
	cases := []struct {
		name  string
		first int64
		want  []int64
	}{
		{"the whole chain", 1, []int64{31, 32, 11, 12, 21}},
		{"from one with none", 3, []int64{11, 12, 21}},
		{"from the midst", 0, []int64{11, 12, 21}},
		{"the last one", 2, []int64{21}},
		{"one that is not linked", 4, []int64{41, 42}},
		{"another one that leads to the midst", 5, []int64{51, 52, 11, 12, 21}},
	}
	for _, c := range cases {
		for last := range s.Rings { // Last has no part in it
			s.First, s.Last = c.first, int64(last)
			checkStoreOk(t, c.name, s, true)
			checkList(t, c.name, impl.ValuesIn(s), c.want)
		}
	}
}

func TestValuesInOfAllThereMayBe(t *testing.T) {
	nexts := looseRings(mostRings)
	for i := range nexts[1:] {
		nexts[i+1] = int64(i) // the last ring is First, and 0 the end
	}
	s := linkedStore(8, mostRings, nexts...)
	s.First = mostRings - 1
	var want []int64
	for ring := int64(mostRings - 1); ring >= 0; ring-- {
		for at := range int64(8) {
			s.Rings[ring].Places[at] = full(at, ring*8+at+1)
			want = append(want, ring*8+at+1)
		}
	}
	checkList(t, "all", impl.ValuesIn(s), want)
}

func TestStoreListsAreNewMemory(t *testing.T) {
	s := linkedStore(2, 3, 1, -1)
	s.Rings[0].Places[0] = full(2, 9)
	s.Rings[1].Places[1] = full(1, 8)
	lists := map[string]func() []int64{
		"ChainOf":  func() []int64 { return impl.ChainOf(s) },
		"ValuesIn": func() []int64 { return impl.ValuesIn(s) },
	}
	for name, list := range lists {
		first := list()
		kept := slices.Clone(first)
		second := list()
		second = second[:cap(second)]
		for i := range second {
			second[i] = -7
		}
		checkList(t, name+", the first answer", first, kept)
		checkList(t, name+", a later answer", list(), kept)
	}
}

// roomy gives each list of s spare room with something in it.
func roomy(s impl.Store) impl.Store {
	for i := range s.Rings {
		places := append(s.Rings[i].Places, full(77, 5), full(76, 4))
		s.Rings[i].Places = places[:len(places)-2]
	}
	rings := append(s.Rings, numberedRing(5), numberedRing(6))
	s.Rings = rings[:len(rings)-2]
	return s
}

// withRoom is s with its spare room made part of it.
func withRoom(s impl.Store) impl.Store {
	s.Rings = slices.Clone(s.Rings[:len(s.Rings)+2])
	for i := range s.Rings[:len(s.Rings)-2] {
		places := s.Rings[i].Places
		s.Rings[i].Places = places[:len(places)+2]
	}
	return s
}

func TestStoreArgumentsStay(t *testing.T) {
	all := wrongStores()
	right := linkedStore(3, 4, 2, -1, 1)
	for i := range right.Rings {
		right.Rings[i].Places = []impl.Place{full(6, 9), full(4, 8), full(2, 7)}
	}
	all["right"] = right
	for name, s := range all {
		s = roomy(s)
		kept := copied(withRoom(s))
		impl.StoreOk(s)
		impl.ChainOf(s)
		impl.ValuesIn(s)
		if now := withRoom(s); !sameStore(now, kept) {
			t.Errorf("%s: the argument is now %+v", name, now)
		}
	}
}
