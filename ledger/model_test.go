package ledger_test

import (
	"math/big"
	"slices"
	"strconv"
	"strings"
	"testing"

	"falsework/api"
	"falsework/ledger"
	"falsework/mixer"
)

// Here every call is held against the chapter's words, in numbers of any size: a model has entries alone, and goes through all of them for each balance.

type model struct {
	entries [][]api.Leg
}

// total: the Amounts of these legs that are of the account.
func total(list []api.Leg, account int) *big.Int {
	sum := new(big.Int)
	for _, leg := range list {
		if leg.Account == account {
			sum.Add(sum, big.NewInt(leg.Amount))
		}
	}
	return sum
}

func modelRight(list []api.Leg) bool {
	if len(list) < 2 || len(list) > maxLegs {
		return false
	}
	sum := new(big.Int)
	for _, leg := range list {
		if leg.Account < 0 || leg.Account >= accounts || leg.Amount == 0 {
			return false
		}
		sum.Add(sum, big.NewInt(leg.Amount))
	}
	return sum.Sign() == 0
}

func modelAdd(trial [accounts]int64, list []api.Leg) ([accounts]int64, api.Errno) {
	if !modelRight(list) {
		return [accounts]int64{}, wrong
	}
	for account := range trial {
		sum := total(list, account)
		sum.Add(sum, big.NewInt(trial[account]))
		if !sum.IsInt64() {
			return [accounts]int64{}, over
		}
		trial[account] = sum.Int64()
	}
	return trial, ok
}

func (m *model) balance(account int) *big.Int {
	sum := new(big.Int)
	for _, list := range m.entries {
		sum.Add(sum, total(list, account))
	}
	return sum
}

func (m *model) post(list []api.Leg) (int, api.Errno) {
	if !modelRight(list) {
		return 0, wrong
	}
	if len(m.entries) == maxCount {
		return 0, noEntry
	}
	for account := range accounts {
		sum := m.balance(account)
		if !sum.Add(sum, total(list, account)).IsInt64() {
			return 0, over
		}
	}
	m.entries = append(m.entries, slices.Clone(list))
	return len(m.entries) - 1, ok
}

func (m *model) reverse(entry int) (int, api.Errno) {
	if entry < 0 || entry >= len(m.entries) {
		return 0, noEntry
	}
	list := m.entries[entry]
	if slices.ContainsFunc(list, func(leg api.Leg) bool { return leg.Amount == least }) {
		return 0, over
	}
	return m.post(turned(list))
}

func (m *model) clone() *model {
	return &model{slices.Clone(m.entries)}
}

// sides: nil, if one of them is no number of 64 bits.
func (m *model) sides() []*big.Int {
	above, below := new(big.Int), new(big.Int)
	for account := range accounts {
		if sum := m.balance(account); sum.Sign() > 0 {
			above.Add(above, sum)
		} else {
			below.Sub(below, sum)
		}
	}
	if !above.IsInt64() || !below.IsInt64() {
		return nil
	}
	return []*big.Int{above, below}
}

// checkSides: P13.3, and P13.5 by what was told alone.
func (m *model) checkSides(t *testing.T, l *ledger.Ledger, story string) bool {
	t.Helper()
	sum := new(big.Int)
	for _, amount := range l.Trial() {
		sum.Add(sum, big.NewInt(amount))
	}
	if sum.Sign() != 0 {
		t.Fatalf("%s: %d is %s in all", story, l.Trial(), sum)
	}
	a, b, err := l.Sides()
	if a != b {
		t.Fatalf("%s: the sides are %d and %d", story, a, b)
	}
	want := m.sides()
	if want == nil {
		if a != 0 || err != over {
			t.Fatalf("%s: Sides of %d = %d, %d, %d", story, l.Trial(), a, b, err)
		}
		return false
	}
	if err != ok || want[0].Cmp(big.NewInt(a)) != 0 || want[1].Cmp(big.NewInt(b)) != 0 {
		t.Fatalf("%s: Sides of %d = %d, %d, %d; want %s", story, l.Trial(), a, b, err, want)
	}
	return true
}

func (m *model) sameAs(t *testing.T, l *ledger.Ledger, story string) {
	t.Helper()
	if l.Len() != len(m.entries) {
		t.Fatalf("%s: Len %d; want %d", story, l.Len(), len(m.entries))
	}
	trial := l.Trial()
	if len(trial) != accounts {
		t.Fatalf("%s: Trial %d", story, trial)
	}
	for account := -2; account < accounts+2; account++ {
		got, want := l.Balance(account), m.balance(account)
		if want.Cmp(big.NewInt(got)) != 0 {
			t.Fatalf("%s: Balance(%d) = %d; want %s", story, account, got, want)
		}
		if account >= 0 && account < accounts && trial[account] != got {
			t.Fatalf("%s: Trial %d, but Balance(%d) = %d", story, trial, account, got)
		}
	}
	for entry := -1; entry <= len(m.entries); entry++ {
		var want []api.Leg
		wantErr := noEntry
		if entry >= 0 && entry < len(m.entries) {
			want, wantErr = m.entries[entry], ok
		}
		if got, err := l.Entry(entry); !slices.Equal(got, want) || err != wantErr {
			t.Fatalf("%s: Entry(%d) = %v, %d; want %v, %d", story, entry, got, err, want, wantErr)
		}
	}
}

// edge: an amount of any size, often one at an edge.
func edge(m *mixer.Mixer) int64 {
	switch m.UpTo(12) {
	case 0:
		return most
	case 1:
		return least
	case 2:
		return -most
	case 3:
		return int64(1)<<62 - int64(m.UpTo(3))
	case 4:
		return int64(m.UpTo(5)) - 2
	}
	return m.AnySize()
}

// closed: as many legs, on a few accounts, whose last ones make up what the others lack, if that can be.
func closed(m *mixer.Mixer, count int) []api.Leg {
	width := 1 + m.UpTo(accounts)
	list := make([]api.Leg, 0, count+2)
	sum := new(big.Int)
	put := func(amount int64) {
		list = append(list, api.Leg{Account: m.UpTo(width), Amount: amount})
		sum.Add(sum, big.NewInt(amount))
	}
	for range count - 1 {
		put(edge(m))
	}
	for sum.Sign() != 0 && len(list) < count+2 {
		rest := new(big.Int).Neg(sum)
		switch {
		case rest.IsInt64():
			put(rest.Int64())
		case rest.Sign() > 0:
			put(most)
		default:
			put(least)
		}
	}
	return list
}

// anyLegs: most of them Right, or nearly.
func anyLegs(m *mixer.Mixer) []api.Leg {
	list := closed(m, m.UpTo(maxLegs+1))
	if len(list) == 0 {
		return nil
	}
	one := &list[m.UpTo(len(list))]
	switch m.UpTo(12) {
	case 0:
		one.Amount = edge(m)
	case 1:
		one.Account = m.UpTo(accounts+6) - 3
	case 2:
		one.Amount++
	case 3:
		return append(list, api.Leg{Account: 1, Amount: 0})
	}
	return list
}

// P13.1: all short lists of amounts about the edges, each on an account of its own.
func TestRightOfEdges(t *testing.T) {
	amounts := []int64{0, 1, 2, -1, -2, most, -most, least, 1 << 62, -1 << 62}
	for count := range 6 {
		codes := 1
		for range count {
			codes *= len(amounts)
		}
		for code := range codes {
			list := make([]api.Leg, count)
			for i := range list {
				list[i] = api.Leg{Account: i, Amount: amounts[code%len(amounts)]}
				code /= len(amounts)
			}
			if got, want := ledger.Right(list...), modelRight(list); got != want {
				t.Fatalf("Right(%v) = %v", list, got)
			}
		}
	}
}

// P13.1, P13.4
func TestAddByModel(t *testing.T) {
	m := mixer.Mixer(131)
	seen := map[api.Errno]int{}
	for range 60000 {
		var trial [accounts]int64
		for i := range trial {
			trial[i] = edge(&m)
		}
		list := anyLegs(&m)
		if got, want := ledger.Right(list...), modelRight(list); got != want {
			t.Fatalf("Right(%v) = %v", list, got)
		}
		want, wantErr := modelAdd(trial, list)
		checkAdd(t, trial, list, want, wantErr)
		seen[wantErr]++
	}
	for _, err := range []api.Errno{ok, wrong, over} {
		if seen[err] < 5000 {
			t.Errorf("%d was seen %d times", err, seen[err])
		}
	}
}

// book is a ledger beside its model.
type book struct {
	l *ledger.Ledger
	m *model
}

// row is what was done to some ledgers, and how often what came of it was seen.
type row struct {
	mix   mixer.Mixer
	books []book
	story strings.Builder
	seen  map[string]int
}

func (r *row) note(what string, err api.Errno) {
	key := what + " " + strconv.Itoa(int(err))
	r.story.WriteString("; " + key)
	r.seen[key]++
}

// step: one call more, to one of the ledgers.
func (r *row) step(t *testing.T) {
	t.Helper()
	b := r.books[r.mix.UpTo(len(r.books))]
	switch r.mix.UpTo(12) {
	case 0:
		if len(r.books) < 4 {
			r.books = append(r.books, book{b.l.Clone(), b.m.clone()})
			r.note("Clone", ok)
		}
	case 1, 2, 3:
		entry := r.mix.UpTo(len(b.m.entries)+2) - 1
		want, wantErr := b.m.reverse(entry)
		wantReverse(t, b.l, entry, want, wantErr)
		r.note("Reverse", wantErr)
	default:
		list := anyLegs(&r.mix)
		want, trial := 0, [accounts]int64(b.l.Trial())
		want, wantErr := b.m.post(list)
		added, err := ledger.Add(trial, list...)
		wantPost(t, b.l, list, want, wantErr)
		r.note("Post", wantErr)
		// P13.2, P13.4: what Add makes of the Trial is what the Trial is behind a Post.
		if err != wantErr || err == ok && !slices.Equal(added[:], b.l.Trial()) {
			t.Fatalf("%s: Add(%d, %v) = %d, %d; Trial %d", r.story.String(), trial, list, added, err, b.l.Trial())
		}
	}
}

// P13.2, P13.3, P13.5: rows of calls to ledgers and their clones, all of them held against their models behind each call.
func TestAsTheModel(t *testing.T) {
	seen := map[string]int{}
	for seed := range 250 {
		l := ledger.New()
		r := row{mix: mixer.Mixer(1300 + seed), books: []book{{l, &model{}}}, seen: seen}
		for range 50 {
			r.step(t)
			for _, b := range r.books {
				b.m.sameAs(t, b.l, r.story.String())
				if b.m.checkSides(t, b.l, r.story.String()) {
					seen["Sides 0"]++
				} else {
					seen["Sides 11"]++
				}
			}
			if t.Failed() {
				t.Fatal(r.story.String())
			}
		}
	}
	for _, what := range []string{"Clone 0", "Post 0", "Post 131", "Post 11", "Reverse 0", "Reverse 132", "Reverse 11", "Sides 0", "Sides 11"} {
		if seen[what] < 300 {
			t.Errorf("%s was seen %d times", what, seen[what])
		}
	}
}
