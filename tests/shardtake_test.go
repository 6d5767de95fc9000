package tests

import (
	"testing"

	"loop.example/g00610/impl"
)

func checkShardTake(t *testing.T, name string, l []impl.Store, from int64, want []impl.Store, wantReply, wantValue int64) {
	t.Helper()
	was := copiedShards(l)
	for range 2 {
		got, reply, value := impl.ShardTake(l, from)
		checkShards(t, name, got, want)
		if reply != wantReply || value != wantValue {
			t.Errorf("%s, from %d of %d: %d and %d, not %d and %d", name, from, len(l), reply, value, wantReply, wantValue)
		}
		checkShards(t, name+", the argument", l, was)
	}
}

// roundFrom are all places of n, from that one on.
func roundFrom(n, from int) []int {
	var all []int
	for at := from; at < n; at++ {
		all = append(all, at)
	}
	for at := range from {
		all = append(all, at)
	}
	return all
}

// found is a Store with one Value, and taken is what it is without it.
func found(most, value int64) impl.Store {
	return changed(filledStore(2, most, 1), placeIs(0, 0, full(0, value)))
}

func taken(most int64) impl.Store {
	return changed(filledStore(2, most, 1), headIs(0, 1), placeIs(0, 0, safePlace(2)))
}

// From each place on, what is taken is as many places behind it as there may
// be; those ahead of it were looked at, those behind it were not.
func TestShardTakeFromEachPlace(t *testing.T) {
	for n := 1; n <= mostShards; n++ {
		for from := range n {
			for passed, where := range roundFrom(n, from) {
				for _, value := range rightValues() {
					l, want := emptyShards(n), emptyShards(n)
					l[where], want[where] = found(int64(where)+1, value), taken(int64(where)+1)
					for _, at := range roundFrom(n, from)[:passed] {
						want[at] = lookedAt(2, int64(at)+1, 1)
					}
					checkShardTake(t, "one Value", l, int64(from), want, impl.ReGot, value)
				}
			}
		}
	}
}

// Of two Values the one that comes first, round about, is taken.
func TestShardTakeOfTwo(t *testing.T) {
	for n := 2; n <= mostShards; n++ {
		for from := range n {
			round := roundFrom(n, from)
			for second := 1; second < n; second++ {
				for first := range second {
					near, far := round[first], round[second]
					l, want := emptyShards(n), emptyShards(n)
					l[near], want[near] = found(int64(near)+1, 80), taken(int64(near)+1)
					l[far], want[far] = found(int64(far)+1, 70), found(int64(far)+1, 70)
					for _, at := range round[:first] {
						want[at] = lookedAt(2, int64(at)+1, 1)
					}
					checkShardTake(t, "two Values", l, int64(from), want, impl.ReGot, 80)
				}
			}
		}
	}
}

// Each one is looked at once, whoever is the first of them.
func TestShardTakeOfNothing(t *testing.T) {
	for n := 1; n <= mostShards; n++ {
		for from := range n {
			l := emptyShards(n)
			for times := range int64(7) {
				want := emptyShards(n)
				for at := range want {
					want[at] = lookedAt(2, int64(at)+1, times+1)
				}
				checkShardTake(t, "nothing", l, int64(from), want, impl.ReEmpty, 0)
				l = want
				from = (from + 1) % n
			}
		}
	}
}

// takenByWords is told by chapter 9, and the words of chapter 15.
func takenByWords(l []impl.Store, from int) ([]impl.Store, int64, int64) {
	l = copiedShards(l)
	for _, at := range roundFrom(len(l), from) {
		s, reply, value := impl.TakeAlone(l[at])
		l[at] = s
		if reply != impl.ReEmpty {
			return l, reply, value
		}
	}
	return l, impl.ReEmpty, 0
}

func TestShardTakeIsTakeAloneRoundAbout(t *testing.T) {
	var replies [lastReply + 1]int
	for _, l := range usedShards() {
		for from := range l {
			for now := l; ; {
				then, reply, value := takenByWords(now, from)
				checkShardTake(t, "in use", now, int64(from), then, reply, value)
				replies[reply]++
				if reply != impl.ReGot {
					break
				}
				now = then
			}
		}
	}
	for _, reply := range []int64{impl.ReNone, impl.ReEmpty, impl.ReGot} {
		if replies[reply] == 0 {
			t.Errorf("nobody ever rested with %d", reply)
		}
	}
}

// A Store of which nothing is told, since no number is left to take, is not an
// empty one: those behind it are not looked at.
func TestShardTakeWhereNothingIsDone(t *testing.T) {
	stuck := stuckCases()[4]
	far := farBehind(400)
	farThen := changed(far, headIs(0, 250), placeIs(0, 0, safePlace(250)), placeIs(0, 1, safePlace(251)))
	for _, c := range []struct{ store, then impl.Store }{{stuck.store, stuck.thenStore}, {far, farThen}} {
		for n := 1; n <= mostShards; n++ {
			for from := range n {
				round := roundFrom(n, from)
				for passed, where := range round {
					l, want := emptyShards(n), emptyShards(n)
					l[where], want[where] = c.store, c.then
					for _, at := range round[:passed] {
						want[at] = lookedAt(2, int64(at)+1, 1)
					}
					for _, at := range round[passed+1:] {
						l[at], want[at] = found(int64(at)+1, 70), found(int64(at)+1, 70)
					}
					checkShardTake(t, "nothing is told", l, int64(from), want, impl.ReNone, 0)
				}
			}
		}
	}
}

func TestShardTakeOutOfRange(t *testing.T) {
	for _, l := range append(usedShards(), emptyShards(1), emptyShards(3), emptyShards(mostShards)) {
		for _, from := range append(outside(0, int64(len(l))-1), mostNo) {
			checkShardTake(t, "no such place", l, from, l, impl.ReNone, 0)
		}
	}
}

func TestShardTakeOfWhatIsNotRight(t *testing.T) {
	for name, l := range wrongShards() {
		for _, from := range append(outside(0, mostShards), 0, 1, 2, 3, 4, int64(len(l))-1) {
			got, reply, value := impl.ShardTake(l, from)
			if len(got) != 0 || reply != impl.ReNone || value != 0 {
				t.Errorf("%s, from %d: %d stores, %d and %d", name, from, len(got), reply, value)
			}
		}
	}
}
