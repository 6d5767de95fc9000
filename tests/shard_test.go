package tests

import (
	"fmt"
	"maps"
	"slices"
	"testing"

	"loop.example/g00610/impl"
)

const mostShards = 4

func sameShards(a, b []impl.Store) bool { return slices.EqualFunc(a, b, sameStore) }

// copiedShards share nothing with l, so that a change of l shows against them.
func copiedShards(l []impl.Store) []impl.Store {
	l = slices.Clone(l)
	for at := range l {
		l[at] = copied(l[at])
	}
	return l
}

func checkShards(t *testing.T, name string, got, want []impl.Store) {
	t.Helper()
	if !sameShards(got, want) {
		t.Errorf("%s: the stores are %+v, not %+v", name, got, want)
	}
}

func checkShardsOk(t *testing.T, name string, l []impl.Store, want bool) {
	t.Helper()
	if got := impl.ShardsOk(l); got != want {
		t.Errorf("%s, %d stores: ShardsOk is %v", name, len(l), got)
	}
}

// emptyShards are new ones, each of another Most, so that they can't be taken
// for each other.
func emptyShards(n int) []impl.Store {
	var l []impl.Store
	for at := range n {
		l = append(l, filledStore(2, int64(at)+1, 0))
	}
	return l
}

// usedShards have each of storesInUse at each place, with one to four of them.
func usedShards() [][]impl.Store {
	used := storesInUse()
	names := slices.Sorted(maps.Keys(used))
	var all [][]impl.Store
	for first := range names {
		for n := 1; n <= mostShards; n++ {
			var l []impl.Store
			for at := range n {
				l = append(l, copied(used[names[(first+at)%len(names)]]))
			}
			all = append(all, l)
		}
	}
	return all
}

// wrongShards are too few, too many, or have one that is no Store, at each
// place.
func wrongShards() map[string][]impl.Store {
	all := map[string][]impl.Store{
		"nil":       nil,
		"none":      {},
		"cut":       emptyShards(2)[:0],
		"five":      emptyShards(mostShards + 1),
		"six":       emptyShards(mostShards + 2),
		"very many": slices.Repeat(emptyShards(1), 100000),
	}
	for name, s := range wrongStores() {
		for n := 1; n <= mostShards+1; n++ {
			for at := range n {
				l := emptyShards(n)
				l[at] = copied(s)
				all[fmt.Sprintf("%s at %d of %d", name, at, n)] = l
			}
		}
	}
	return all
}

func TestShardLimits(t *testing.T) {
	if impl.MaxShards != mostShards {
		t.Errorf("MaxShards %d", impl.MaxShards)
	}
}

func TestShardsOkCounts(t *testing.T) {
	for n := range 8 {
		checkShardsOk(t, "new", emptyShards(n), n >= 1 && n <= mostShards)
		checkShardsOk(t, "with more behind them", emptyShards(9)[:n], n >= 1 && n <= mostShards)
	}
}

func TestShardsOkOfRightOnes(t *testing.T) {
	for _, l := range usedShards() {
		checkShardsOk(t, "in use", l, true)
	}
	for name, s := range storesInUse() {
		checkShardsOk(t, name+", four times", []impl.Store{s, s, s, s}, true)
	}
	checkShardsOk(t, "a wrong one behind them", append(emptyShards(2), impl.Store{})[:2], true)
}

func TestShardsOkOfWrongOnes(t *testing.T) {
	for name, l := range wrongShards() {
		checkShardsOk(t, name, l, false)
	}
	for n := 1; n <= mostShards; n++ {
		checkShardsOk(t, "zero ones", make([]impl.Store, n), false)
	}
}

func checkNewShards(t *testing.T, n, round, most int64, want []impl.Store, wantIs bool) {
	t.Helper()
	got, is := impl.NewShards(n, round, most)
	if is != wantIs || !sameShards(got, want) {
		t.Errorf("NewShards(%d, %d, %d) = %+v, %v, not %+v", n, round, most, got, is, want)
	}
}

func TestNewShards(t *testing.T) {
	for n := int64(1); n <= mostShards; n++ {
		for round := int64(2); round <= 8; round++ {
			for most := int64(1); most <= mostRings; most++ {
				one, is := impl.NewStore(round, most)
				if !is {
					t.Fatalf("no store of %d and %d", round, most)
				}
				checkNewShards(t, n, round, most, slices.Repeat([]impl.Store{one}, int(n)), true)
				checkNewShards(t, n, round, most, slices.Repeat([]impl.Store{linkedStore(round, most, -1)}, int(n)), true)
				l, _ := impl.NewShards(n, round, most)
				checkShardsOk(t, "new", l, true)
			}
		}
	}
}

func TestNewShardsOutOfRange(t *testing.T) {
	for _, n := range outside(1, mostShards) {
		for _, round := range []int64{1, 2, 5, 8, 9} {
			for _, most := range []int64{0, 1, 3, mostRings, mostRings + 1} {
				checkNewShards(t, n, round, most, nil, false)
			}
		}
	}
	for n := int64(1); n <= mostShards; n++ {
		for _, round := range outside(2, 8) {
			for _, most := range []int64{-1, 0, 1, mostRings, mostRings + 1} {
				checkNewShards(t, n, round, most, nil, false)
			}
		}
		for _, most := range outside(1, mostRings) {
			for _, round := range []int64{1, 2, 8, 9} {
				checkNewShards(t, n, round, most, nil, false)
			}
		}
	}
}

// What is put at one is not at another.
func TestNewShardsArePutAtOneByOne(t *testing.T) {
	for n := int64(1); n <= mostShards; n++ {
		for who := range n {
			l, _ := impl.NewShards(n, 2, 3)
			l, _ = impl.ShardPut(l, who, 70)
			for at, s := range l {
				var want []int64
				if int64(at) == who {
					want = []int64{70}
				}
				checkList(t, "what is there", impl.ValuesIn(s), want)
			}
		}
	}
}

func checkShardPut(t *testing.T, name string, l []impl.Store, who, value int64, want []impl.Store, wantReply int64) {
	t.Helper()
	was := copiedShards(l)
	for range 2 {
		got, reply := impl.ShardPut(l, who, value)
		checkShards(t, name, got, want)
		if reply != wantReply {
			t.Errorf("%s, %d puts %d: Reply %d, not %d", name, who, value, reply, wantReply)
		}
		checkShards(t, name+", the argument", l, was)
	}
}

// A putter is one, and at which of n he puts.
type putter struct{ who, at int64 }

func puttersAt(n int64) []putter {
	var all []putter
	at := int64(0)
	for who := range 3*n + 2 {
		all = append(all, putter{who, at})
		at++
		if at == n {
			at = 0
		}
	}
	lasts := map[int64]int64{1: 0, 2: 0, 3: 1, 4: 0} // 1000000 is 3 * 333333 and 1
	last := lasts[n]
	return append(all, putter{mostNo, last}, putter{mostNo - 1, (last + n - 1) % n}, putter{mostNo - n, last})
}

func TestShardPutAtEachPlace(t *testing.T) {
	for n := 1; n <= mostShards; n++ {
		for _, p := range puttersAt(int64(n)) {
			for _, value := range rightValues() {
				want := emptyShards(n)
				want[p.at] = changed(want[p.at], tailIs(0, 1), placeIs(0, 0, full(0, value)))
				checkShardPut(t, "onto an empty ring", emptyShards(n), p.who, value, want, impl.ReDone)
			}
		}
	}
}

// A Store without room leaves the others as they are, which have room.
func TestShardPutAtAFullStore(t *testing.T) {
	for n := 1; n <= mostShards; n++ {
		for _, p := range puttersAt(int64(n)) {
			l, want := emptyShards(n), emptyShards(n)
			l[p.at] = filledStore(2, 1, 2)
			want[p.at] = changed(filledStore(2, 1, 2), tailIs(0, 3), closedIs(0))
			checkShardPut(t, "no room", l, p.who, 70, want, impl.ReFull)
			again := copiedShards(want)
			again[p.at] = changed(again[p.at], tailIs(0, 4))
			checkShardPut(t, "no room, Closed", want, p.who, 70, again, impl.ReFull)
		}
	}
}

func TestShardPutIsPutAloneAtOne(t *testing.T) {
	for _, l := range usedShards() {
		for _, p := range puttersAt(int64(len(l))) {
			want := copiedShards(l)
			s, reply := impl.PutAlone(l[p.at], 70)
			want[p.at] = s
			checkShardPut(t, "in use", l, p.who, 70, want, reply)
		}
	}
}

// Chapter 9 says what is done where no number is left to put.
func TestShardPutWhereNothingIsDone(t *testing.T) {
	for n := 1; n <= mostShards; n++ {
		for at := range n {
			for _, c := range stuckCases()[:3] {
				l, want := emptyShards(n), emptyShards(n)
				l[at], want[at] = c.store, c.thenStore
				checkShardPut(t, c.name, l, int64(at+n), 70, want, impl.ReNone)
			}
		}
	}
}

func TestShardPutOutOfRange(t *testing.T) {
	for _, l := range append(usedShards(), emptyShards(1), emptyShards(3), emptyShards(mostShards)) {
		for _, who := range outside(0, mostNo) {
			for _, value := range append(noValues(), 1, 70, mostValue) {
				checkShardPut(t, "nobody", l, who, value, l, impl.ReNone)
			}
		}
		for _, who := range []int64{0, 1, 2, 3, 4, 5, mostNo - 1, mostNo} {
			for _, value := range noValues() {
				checkShardPut(t, "no value", l, who, value, l, impl.ReNone)
			}
		}
	}
}

func TestShardPutOfWhatIsNotRight(t *testing.T) {
	for name, l := range wrongShards() {
		for _, who := range append(outside(0, mostNo), 0, 1, 4, mostNo) {
			for _, value := range []int64{-1, 0, 1, 70, mostValue, mostValue + 1} {
				got, reply := impl.ShardPut(l, who, value)
				if len(got) != 0 || reply != impl.ReNone {
					t.Errorf("%s, %d puts %d: %d stores, Reply %d", name, who, value, len(got), reply)
				}
			}
		}
	}
}
