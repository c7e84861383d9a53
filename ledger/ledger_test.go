package ledger_test

import (
	"math"
	"slices"
	"testing"

	"falsework/api"
	"falsework/ledger"
)

const (
	least = math.MinInt64
	most  = math.MaxInt64

	ok       api.Errno = 0
	over     api.Errno = 11
	wrong    api.Errno = 131
	noEntry  api.Errno = 132
	accounts           = 8
	maxLegs            = 16
	maxCount           = 4096
)

// The chapter's numbers: of errors, of limits, and of accounts.
func TestNumbers(t *testing.T) {
	if api.OK != ok || api.ErrOver != over || api.ErrLegs != wrong || api.ErrEntry != noEntry {
		t.Error("an error has another number")
	}
	if api.MaxLegs != maxLegs || api.MaxEntries != maxCount || api.Accounts != accounts {
		t.Error("a limit is another one")
	}
	names := []int{api.Cash, api.Principal, api.InterestDue, api.FeeDue, api.Interest, api.Fees, api.Sold, api.Strip}
	if !slices.Equal(names, []int{0, 1, 2, 3, 4, 5, 6, 7}) {
		t.Errorf("the accounts are %d", names)
	}
}

// legs: accounts and amounts, by turns.
func legs(numbers ...int64) []api.Leg {
	var out []api.Leg
	for pair := range slices.Chunk(numbers, 2) {
		out = append(out, api.Leg{Account: int(pair[0]), Amount: pair[1]})
	}
	return out
}

// to: what moves an amount from one account to another.
func to(account, from int64, amount int64) []api.Leg {
	return legs(account, amount, from, -amount)
}

// turned: the legs with their amounts turned.
func turned(list []api.Leg) []api.Leg {
	out := slices.Clone(list)
	for i := range out {
		out[i].Amount = -out[i].Amount
	}
	return out
}

// pairs: so many times two legs that are 0 together.
func pairs(count int) []api.Leg {
	return slices.Repeat(to(0, 1, 1), count)
}

func wantPost(t *testing.T, l *ledger.Ledger, list []api.Leg, want int, wantErr api.Errno) {
	t.Helper()
	got, err := l.Post(list...)
	if got != want || err != wantErr {
		t.Errorf("Post(%v) = %d, %d; want %d, %d", list, got, err, want, wantErr)
	}
}

func wantReverse(t *testing.T, l *ledger.Ledger, entry, want int, wantErr api.Errno) {
	t.Helper()
	got, err := l.Reverse(entry)
	if got != want || err != wantErr {
		t.Errorf("Reverse(%d) = %d, %d; want %d, %d", entry, got, err, want, wantErr)
	}
}

func wantEntry(t *testing.T, l *ledger.Ledger, entry int, want []api.Leg, wantErr api.Errno) {
	t.Helper()
	got, err := l.Entry(entry)
	if !slices.Equal(got, want) || err != wantErr {
		t.Errorf("Entry(%d) = %v, %d; want %v, %d", entry, got, err, want, wantErr)
	}
}

func wantLen(t *testing.T, l *ledger.Ledger, want int) {
	t.Helper()
	if got := l.Len(); got != want {
		t.Errorf("Len() = %d; want %d", got, want)
	}
}

func wantSides(t *testing.T, l *ledger.Ledger, debits, credits int64, wantErr api.Errno) {
	t.Helper()
	a, b, err := l.Sides()
	if a != debits || b != credits || err != wantErr {
		t.Errorf("Sides() = %d, %d, %d; want %d, %d, %d", a, b, err, debits, credits, wantErr)
	}
}

// wantTrial: what Trial and Balance tell is this, and zeros behind it.
func wantTrial(t *testing.T, l *ledger.Ledger, want ...int64) {
	t.Helper()
	want = append(slices.Clone(want), make([]int64, accounts-len(want))...)
	if got := l.Trial(); !slices.Equal(got, want) {
		t.Errorf("Trial() = %d; want %d", got, want)
	}
	for account, amount := range want {
		if got := l.Balance(account); got != amount {
			t.Errorf("Balance(%d) = %d; want %d", account, got, amount)
		}
	}
}

// of: a ledger of these entries.
func of(t *testing.T, entries ...[]api.Leg) *ledger.Ledger {
	t.Helper()
	l := ledger.New()
	for i, list := range entries {
		wantPost(t, l, list, i, ok)
	}
	return l
}

// full: a ledger with no room left, whose first entry is this one and whose others are 0 together.
func full(t *testing.T, first []api.Leg) *ledger.Ledger {
	t.Helper()
	l := of(t, first)
	for i := 1; i < maxCount; i++ {
		amount := int64(1 - 2*(i%2))
		wantPost(t, l, to(2, 3, amount), i, ok)
	}
	wantLen(t, l, maxCount)
	return l
}

// The chapter's example.
func TestExample(t *testing.T) {
	l := of(t, legs(api.Principal, 5, api.Cash, -5))
	wantTrial(t, l, -5, 5)
}

// P13.2, P13.3: a new one has nothing.
func TestNew(t *testing.T) {
	l := ledger.New()
	wantLen(t, l, 0)
	wantTrial(t, l)
	wantSides(t, l, 0, 0, ok)
	wantEntry(t, l, 0, nil, noEntry)
	wantReverse(t, l, 0, 0, noEntry)
}

// P13.1
func TestRight(t *testing.T) {
	for _, list := range [][]api.Leg{
		to(1, 0, 5),
		to(0, 1, -5),
		to(7, 0, 1),
		legs(2, 7, 4, -5, 7, -2),
		// One account may have several legs, and all of them.
		legs(3, 1, 3, -1),
		legs(3, 1, 3, 1, 3, 1, 3, -3),
		legs(5, 1, 6, -2, 5, 1),
		legs(0, 1, 1, 2, 2, 3, 3, 4, 4, 5, 5, 6, 6, 7, 7, -28),
		pairs(maxLegs / 2),
		append(pairs(maxLegs/2-2), legs(4, 1, 5, 1, 6, -2)...),
		to(0, 1, most),
		legs(0, least, 1, most, 2, 1),
		// Sums on the way are no numbers of 64 bits.
		legs(0, most, 1, most, 2, -most, 3, -most),
		legs(0, least, 1, least, 2, most, 3, most, 4, 2),
		legs(0, most, 0, 1, 0, least),
		append(slices.Repeat(legs(0, most), 8), slices.Repeat(legs(1, -most), 8)...),
		append(slices.Repeat(legs(1, -most), 8), slices.Repeat(legs(0, most), 8)...),
	} {
		if !ledger.Right(list...) {
			t.Errorf("Right(%v) = false", list)
		}
	}
}

// wrongLegs: lists that aren't Right, each by one thing alone.
func wrongLegs() [][]api.Leg {
	return [][]api.Leg{
		nil,
		{},
		legs(0, 0),
		legs(0, 5),
		legs(0, least),
		append(pairs(7), legs(0, 2, 1, -1, 2, -1)...),
		pairs(9),
		pairs(1000),
		to(8, 0, 5),
		to(0, 8, 5),
		to(-1, 0, 5),
		to(0, -1, 5),
		to(0, most, 5),
		to(least, 0, 5),
		to(1<<32, 0, 5),
		to(0, 256, 5),
		legs(0, 1, 1, 1, 9, -2),
		legs(0, 5, -1, -2, 1, -3),
		legs(0, 0, 1, 0),
		legs(0, 0, 1, 5, 2, -5),
		legs(0, 5, 1, 0, 2, -5),
		legs(0, 5, 1, -5, 2, 0),
		append(pairs(7), legs(0, 0)...),
		legs(0, 5, 1, -4),
		legs(0, 5, 1, -6),
		legs(0, 5, 1, 5),
		legs(0, 1, 1, 1, 2, -1),
		legs(0, most, 1, least),
		legs(0, most, 1, 1),
		append(pairs(7), legs(0, 2, 1, -1)...),
		// What wraps round is 0; what is added isn't.
		legs(0, least, 1, least),
		legs(0, most, 1, most, 2, 2),
		slices.Repeat(legs(0, 1<<62), 4),
		slices.Repeat(legs(1, -1<<62), 4),
		slices.Repeat(legs(2, -1<<62), 16),
		slices.Repeat(legs(3, least), 16),
		// Too great a sum, with and without its sign.
		legs(0, most, 1, most),
		slices.Repeat(legs(0, most), 16),
	}
}

// P13.1; ErrLegs of P13.2 and P13.4
func TestWrongLegs(t *testing.T) {
	trial := [accounts]int64{1, -2, 3}
	l := of(t, to(1, 0, 5))
	for _, list := range wrongLegs() {
		if ledger.Right(list...) {
			t.Errorf("Right(%v) = true", list)
		}
		wantPost(t, l, list, 0, wrong)
		checkAdd(t, trial, list, [accounts]int64{}, wrong)
	}
	wantLen(t, l, 1)
	wantTrial(t, l, -5, 5)
	wantEntry(t, l, 1, nil, noEntry)
	wantPost(t, l, to(1, 0, 6), 1, ok)
}

// P13.1: each account that there is, and those about them.
func TestAccounts(t *testing.T) {
	for account := int64(-20); account < 30; account++ {
		for _, list := range [][]api.Leg{to(account, 0, 5), to(7, account, 1)} {
			if got, want := ledger.Right(list...), account >= 0 && account < accounts; got != want {
				t.Errorf("Right(%v) = %v", list, got)
			}
		}
	}
}

// P13.1: from 2 to 16 legs.
func TestHowManyLegs(t *testing.T) {
	for count := range 40 {
		list := slices.Repeat(legs(1, 1), count)
		if count > 0 {
			list[count/2].Amount = int64(1 - count)
		}
		if got, want := ledger.Right(list...), count >= 2 && count <= maxLegs; got != want {
			t.Errorf("Right of %d legs = %v", count, got)
		}
	}
}

// P13.2: numbers from 0 on, and the legs in their order, though an account comes twice.
func TestPost(t *testing.T) {
	entries := [][]api.Leg{
		to(1, 0, 100),
		legs(2, 7, 4, -5, 7, -2),
		legs(6, 1, 5, 2, 6, -4, 5, 1),
		to(1, 0, 100),
		to(3, 3, 9),
		pairs(maxLegs / 2),
	}
	l := of(t, entries...)
	wantLen(t, l, len(entries))
	for i, list := range entries {
		wantEntry(t, l, i, list, ok)
	}
	wantTrial(t, l, -192, 192, 7, 0, -5, 3, -3, -2)
}

// P13.2
func TestNoSuchEntry(t *testing.T) {
	l := of(t, to(1, 0, 5), to(2, 0, 6))
	for _, entry := range []int{2, 3, -1, -2, maxCount, most, least, 1 << 32} {
		wantEntry(t, l, entry, nil, noEntry)
		wantReverse(t, l, entry, 0, noEntry)
	}
	wantLen(t, l, 2)
	wantTrial(t, l, -11, 5, 6)
}

// P13.2: an entry that is taken back stays, and may be taken back again; so may what took it back.
func TestReverse(t *testing.T) {
	first, second := legs(2, 7, 4, -5, 7, -2), to(1, 0, 100)
	l := of(t, first, second)
	wantReverse(t, l, 0, 2, ok)
	wantTrial(t, l, -100, 100)
	wantEntry(t, l, 0, first, ok)
	wantEntry(t, l, 2, turned(first), ok)
	wantReverse(t, l, 2, 3, ok)
	wantEntry(t, l, 3, first, ok)
	wantTrial(t, l, -100, 100, 7, 0, -5, 0, 0, -2)
	wantReverse(t, l, 1, 4, ok)
	wantReverse(t, l, 1, 5, ok)
	wantEntry(t, l, 5, turned(second), ok)
	wantEntry(t, l, 1, second, ok)
	wantTrial(t, l, 100, -100, 7, 0, -5, 0, 0, -2)
	wantLen(t, l, 6)
}

// P13.2: the least number of 64 bits can't be turned, wherever it stands; those beside it can.
func TestReverseOfTheLeast(t *testing.T) {
	for _, list := range [][]api.Leg{
		legs(0, least, 1, most, 2, 1),
		legs(1, most, 0, least, 2, 1),
		legs(1, most, 2, 1, 0, least),
		legs(0, least, 0, most, 1, 1),
	} {
		l := of(t, to(1, 0, -9), list)
		trial := l.Trial()
		wantReverse(t, l, 1, 0, over)
		wantLen(t, l, 2)
		wantTrial(t, l, trial...)
		wantEntry(t, l, 1, list, ok)
		wantReverse(t, l, 0, 2, ok)
	}
	l := of(t, to(0, 1, -most))
	wantReverse(t, l, 0, 1, ok)
	wantEntry(t, l, 1, to(0, 1, most), ok)
	wantTrial(t, l)
}

// P13.2: a Balance at its edges, and past them.
func TestPostOver(t *testing.T) {
	for _, c := range []struct {
		first, next []api.Leg
		err         api.Errno
	}{
		{to(0, 1, most), to(0, 1, 1), over},
		{to(0, 1, most), to(0, 2, 1), over},
		{to(0, 1, most), to(2, 0, 1), ok},
		// -most less 1 is the least; that less 1 is none.
		{to(0, 1, most), to(2, 1, 1), ok},
		{to(0, 1, most), to(2, 1, 2), over},
		{to(0, 1, most), to(0, 1, most), over},
		{to(0, 1, most), to(1, 0, most), ok},
		{legs(7, least, 1, most, 2, 1), to(3, 7, 1), over},
		{legs(7, least, 1, most, 2, 1), to(7, 3, 1), ok},
		{legs(7, least, 1, most, 2, 1), to(7, 3, most), ok},
		{legs(7, least, 1, most, 2, 1), legs(7, least, 3, most, 4, 1), over},
		{to(6, 5, most-1), to(6, 5, 1), ok},
		{to(6, 5, most-1), to(6, 5, 2), over},
		// The first legs are within 64 bits, the last one isn't.
		{to(6, 5, most), legs(0, 1, 1, 2, 2, 3, 6, 1, 5, -7), over},
	} {
		l := of(t, c.first)
		trial := l.Trial()
		if c.err == ok {
			wantPost(t, l, c.next, 1, ok)
			wantEntry(t, l, 1, c.next, ok)
			continue
		}
		wantPost(t, l, c.next, 0, c.err)
		wantLen(t, l, 1)
		wantTrial(t, l, trial...)
		wantEntry(t, l, 0, c.first, ok)
		wantPost(t, l, to(2, 3, 1), 1, ok)
	}
}

// P13.2: a Balance counts once all legs are in; what it is on the way doesn't.
func TestPostOnTheWay(t *testing.T) {
	l := of(t, to(0, 1, most))
	wantPost(t, l, legs(0, 1, 1, -2, 0, -5, 1, 6), 1, ok)
	wantTrial(t, l, most-4, 4-most)
	wantPost(t, l, legs(0, most, 0, most, 0, least, 0, least, 0, 1, 2, 1), 2, ok)
	wantTrial(t, l, most-5, 4-most, 1)
	wantPost(t, l, legs(0, 6, 0, -1, 1, -5), 3, ok)
	wantTrial(t, l, most, -most-1, 1)
	wantPost(t, l, legs(0, -1, 0, most, 0, 1, 1, -most), 0, over)
	wantPost(t, l, legs(0, -1, 0, 2, 1, -1), 0, over)
	wantTrial(t, l, most, -most-1, 1)
	wantLen(t, l, 4)
}

// P13.2: what takes an entry back may be too much for a Balance.
func TestReverseOver(t *testing.T) {
	l := of(t, to(0, 1, most))
	wantReverse(t, l, 0, 1, ok)
	wantReverse(t, l, 0, 2, ok)
	wantTrial(t, l, -most, most)
	wantReverse(t, l, 0, 0, over)
	wantTrial(t, l, -most, most)
	wantLen(t, l, 3)
	wantReverse(t, l, 2, 3, ok)
	wantTrial(t, l)
}

// P13.2: ErrLegs, then ErrEntry, then ErrOver.
func TestNoRoom(t *testing.T) {
	first := legs(0, most, 1, least, 4, 1)
	l := full(t, first)
	trial := l.Trial()
	wantPost(t, l, to(2, 3, 1), 0, noEntry)
	wantPost(t, l, to(0, 5, 1), 0, noEntry)
	for _, list := range wrongLegs() {
		wantPost(t, l, list, 0, wrong)
	}
	wantReverse(t, l, maxCount-1, 0, noEntry)
	wantReverse(t, l, maxCount, 0, noEntry)
	wantReverse(t, l, -1, 0, noEntry)
	// Its Amounts come first, then Post, which has no room.
	wantReverse(t, l, 0, 0, over)
	wantLen(t, l, maxCount)
	wantTrial(t, l, trial...)
	wantEntry(t, l, 0, first, ok)
	wantEntry(t, l, maxCount-1, to(2, 3, -1), ok)
	wantEntry(t, l, maxCount, nil, noEntry)
}

// P13.2: what takes the last room is the last entry, a Post or what took another one back.
func TestTheLastRoom(t *testing.T) {
	l := ledger.New()
	for i := range maxCount - 1 {
		wantPost(t, l, to(0, 1, int64(i)+1), i, ok)
	}
	k := l.Clone()
	wantPost(t, l, to(0, 1, 1), maxCount-1, ok)
	wantReverse(t, k, 5, maxCount-1, ok)
	wantPost(t, l, to(0, 1, 1), 0, noEntry)
	wantReverse(t, k, 5, 0, noEntry)
	wantEntry(t, k, maxCount-1, to(0, 1, -6), ok)
	sum := int64(maxCount-1) * maxCount / 2
	wantTrial(t, l, sum+1, -sum-1)
	wantTrial(t, k, sum-6, 6-sum)
}

// P13.3: an account that there isn't.
func TestBalanceOfNoAccount(t *testing.T) {
	l := of(t, legs(0, 1, 1, 2, 2, 3, 3, 4, 4, 5, 5, 6, 6, 7, 7, -28))
	wantTrial(t, l, 1, 2, 3, 4, 5, 6, 7, -28)
	for _, account := range []int{-1, -8, accounts, accounts + 1, 16, 256, 1 << 32, most, least} {
		if got := l.Balance(account); got != 0 {
			t.Errorf("Balance(%d) = %d", account, got)
		}
	}
}

// P13.3
func TestSides(t *testing.T) {
	for _, c := range []struct {
		list            []api.Leg
		debits, credits int64
		err             api.Errno
	}{
		{to(0, 1, 5), 5, 5, ok},
		{to(0, 1, -5), 5, 5, ok},
		{legs(0, 1, 1, 2, 2, 3, 3, 4, 4, 5, 5, 6, 6, 7, 7, -28), 28, 28, ok},
		{legs(0, -1, 1, -2, 2, -3, 3, -4, 4, -5, 5, -6, 6, -7, 7, 28), 28, 28, ok},
		{legs(0, 9, 1, -4, 6, 3, 7, -8), 12, 12, ok},
		// What goes to an account and from it again is on no side.
		{legs(0, 9, 0, -9), 0, 0, ok},
		{legs(0, 9, 1, -5, 0, -4), 5, 5, ok},
		{to(0, 1, most), most, most, ok},
		{to(7, 6, -most), most, most, ok},
		{legs(0, most-3, 1, 3, 2, -most), most, most, ok},
		{legs(0, 3-most, 1, -3, 2, most), most, most, ok},
		{legs(0, most, 1, 1, 2, -most, 3, -1), 0, 0, over},
		{legs(0, least, 1, most, 2, 1), 0, 0, over},
		{legs(5, -1, 0, -most, 1, 1<<62, 2, 1<<62), 0, 0, over},
		{legs(0, most, 1, most, 2, -most, 3, -most), 0, 0, over},
		// Twice 2^63 would wrap round to 0.
		{legs(0, least, 1, least, 2, most, 3, most, 4, 2), 0, 0, over},
	} {
		l := of(t, c.list)
		wantSides(t, l, c.debits, c.credits, c.err)
	}
}

// P13.3: Sides tells of the Balances, not of what went over them, and has changed nothing.
func TestSidesAreOfBalances(t *testing.T) {
	l := of(t, to(0, 1, most), to(1, 0, most-4), to(1, 2, 6))
	wantSides(t, l, 6, 6, ok)
	wantPost(t, l, legs(3, most, 4, -most), 3, ok)
	wantSides(t, l, 0, 0, over)
	wantTrial(t, l, 4, 2, -6, most, -most)
	wantReverse(t, l, 3, 4, ok)
	wantSides(t, l, 6, 6, ok)
}

// P13.3: what is done to the one isn't done to the other, whatever room they had.
func TestClone(t *testing.T) {
	for count := range 20 {
		l := ledger.New()
		for i := range count {
			wantPost(t, l, to(0, 1, int64(i)+1), i, ok)
		}
		sum := int64(count) * int64(count+1) / 2
		k := l.Clone()
		wantLen(t, k, count)
		wantTrial(t, k, sum, -sum)
		wantPost(t, l, to(2, 3, 7), count, ok)
		wantLen(t, k, count)
		wantTrial(t, k, sum, -sum)
		wantEntry(t, k, count, nil, noEntry)
		wantPost(t, k, to(4, 5, 8), count, ok)
		wantEntry(t, l, count, to(2, 3, 7), ok)
		wantEntry(t, k, count, to(4, 5, 8), ok)
		wantTrial(t, l, sum, -sum, 7, -7)
		wantTrial(t, k, sum, -sum, 0, 0, 8, -8)
		wantSides(t, k, sum+8, sum+8, ok)
		for i := range count {
			wantEntry(t, l, i, to(0, 1, int64(i)+1), ok)
			wantEntry(t, k, i, to(0, 1, int64(i)+1), ok)
		}
	}
}

// P13.3: a clone of a full one is full, one of a clone is one too.
func TestCloneOfAClone(t *testing.T) {
	l := full(t, to(0, 1, 5))
	k := l.Clone().Clone()
	wantPost(t, k, to(0, 1, 5), 0, noEntry)
	wantEntry(t, k, 0, to(0, 1, 5), ok)
	wantEntry(t, k, maxCount-1, to(2, 3, -1), ok)
	wantTrial(t, k, l.Trial()...)
	wantTrial(t, ledger.New().Clone())
}

func checkAdd(t *testing.T, trial [accounts]int64, list []api.Leg, want [accounts]int64, wantErr api.Errno) {
	t.Helper()
	got, err := ledger.Add(trial, list...)
	if got != want || err != wantErr {
		t.Errorf("Add(%d, %v) = %d, %d; want %d, %d", trial, list, got, err, want, wantErr)
	}
}

// P13.4: to balances of any kind, that needn't be 0 together.
func TestAdd(t *testing.T) {
	type trial = [accounts]int64
	for _, c := range []struct {
		before trial
		list   []api.Leg
		after  trial
		err    api.Errno
	}{
		{trial{}, to(1, 0, 5), trial{-5, 5}, ok},
		{trial{1, 2, 3, 4, 5, 6, 7, 8}, to(7, 0, 10), trial{-9, 2, 3, 4, 5, 6, 7, 18}, ok},
		{trial{1, 2, 3}, legs(2, 7, 4, -5, 7, -2), trial{1, 2, 10, 0, -5, 0, 0, -2}, ok},
		{trial{5, 5}, legs(0, 1, 1, -2, 0, 4, 1, -3), trial{10, 0}, ok},
		{trial{1, 2, 3, 4}, to(3, 3, 9), trial{1, 2, 3, 4}, ok},
		{trial{}, pairs(maxLegs / 2), trial{8, -8}, ok},
		{trial{most - 1}, to(0, 1, 1), trial{most, -1}, ok},
		{trial{most}, to(0, 1, 1), trial{}, over},
		{trial{0, 0, 0, 0, 0, 0, 0, most}, to(7, 1, 1), trial{}, over},
		{trial{least + 1}, to(1, 0, 1), trial{least, 1}, ok},
		{trial{least}, to(1, 0, 1), trial{}, over},
		{trial{9, 9, 9, 9, 9, 9, 9, least}, to(1, 7, 1), trial{}, over},
		{trial{least, most}, legs(0, most, 1, -most), trial{-1, 0}, ok},
		{trial{least, most}, legs(0, least, 1, most, 2, 1), trial{}, over},
		{trial{most, 3}, legs(0, least, 1, most-3, 2, 4), trial{-1, most, 4}, ok},
		{trial{most, 3}, legs(0, least, 1, most-2, 2, 3), trial{}, over},
		// What an account is on the way doesn't count.
		{trial{most, least}, legs(0, 1, 1, -2, 0, -5, 1, 6), trial{most - 4, least + 4}, ok},
		{trial{most}, legs(0, most, 0, most, 0, least, 0, least, 0, 1, 2, 1), trial{most - 1, 0, 1}, ok},
		{trial{most}, legs(0, -1, 0, 2, 1, -1), trial{}, over},
		// An account that no leg is of may be anything.
		{trial{1, 1, most, least}, to(0, 1, 1), trial{2, 0, most, least}, ok},
		{trial{most}, legs(0, 1, 1, -2), trial{}, wrong},
		{trial{most}, legs(0, 1, 8, -1), trial{}, wrong},
	} {
		checkAdd(t, c.before, c.list, c.after, c.err)
	}
}

// The rules of memory: what is handed in isn't changed, spare room included, and not kept.
func TestHandedIn(t *testing.T) {
	room := append(legs(0, 5, 1, -3, 2, -2), legs(9, 9, 9, 9, 9, 9)...)
	before := slices.Clone(room)
	list := room[:3]
	l := of(t, list)
	wantReverse(t, l, 0, 1, ok)
	wantPost(t, l, list, 2, ok)
	k := l.Clone()
	if !ledger.Right(list...) {
		t.Error("they are Right")
	}
	checkAdd(t, [accounts]int64{1, 1, 1}, list, [accounts]int64{6, -2, -1}, ok)
	if !slices.Equal(room, before) {
		t.Errorf("legs that were handed in are %v; they were %v", room, before)
	}
	for i := range room {
		room[i] = api.Leg{Account: 7, Amount: 77}
	}
	for _, one := range []*ledger.Ledger{l, k} {
		wantEntry(t, one, 0, before[:3], ok)
		wantEntry(t, one, 1, turned(before[:3]), ok)
		wantEntry(t, one, 2, before[:3], ok)
		wantTrial(t, one, 5, -3, -2)
	}
}

// The rules of memory: an answer may be written over, spare room included.
func TestAnswers(t *testing.T) {
	list := legs(0, 5, 1, -3, 2, -2)
	l := of(t, list, to(3, 4, 1))
	k := l.Clone()
	for _, one := range []*ledger.Ledger{l, k} {
		for range 2 {
			got, _ := one.Entry(0)
			for i := range got[:cap(got)] {
				got[:cap(got)][i] = api.Leg{Account: 7, Amount: 77}
			}
			trial := one.Trial()
			for i := range trial[:cap(trial)] {
				trial[:cap(trial)][i] = 88
			}
		}
	}
	wantReverse(t, l, 0, 2, ok)
	wantEntry(t, l, 2, turned(list), ok)
	for _, one := range []*ledger.Ledger{l, k} {
		wantEntry(t, one, 0, list, ok)
		wantEntry(t, one, 1, to(3, 4, 1), ok)
	}
	wantTrial(t, l, 0, 0, 0, 1, -1)
	wantTrial(t, k, 5, -3, -2, 1, -1)
	a, b := l.Trial(), l.Trial()
	a[0] = 99
	if b[0] != 0 {
		t.Error("two trials share memory")
	}
	x, _ := l.Entry(1)
	y, _ := l.Entry(1)
	x[0].Amount = 99
	if y[0].Amount != 1 {
		t.Error("two answers of Entry share memory")
	}
}

// The rule that an object is what was done to it alone: two ledgers share nothing.
func TestTwoLedgers(t *testing.T) {
	a, b := ledger.New(), ledger.New()
	wantPost(t, a, to(0, 1, 5), 0, ok)
	wantLen(t, b, 0)
	wantTrial(t, b)
	wantPost(t, b, to(2, 3, 6), 0, ok)
	wantPost(t, b, to(2, 3, 7), 1, ok)
	wantTrial(t, a, 5, -5)
	wantTrial(t, b, 0, 0, 13, -13)
	wantEntry(t, a, 0, to(0, 1, 5), ok)
	wantEntry(t, a, 1, nil, noEntry)
}
