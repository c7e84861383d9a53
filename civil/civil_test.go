package civil_test

import (
	"math"
	"testing"

	"falsework/api"
	"falsework/civil"
)

const (
	least = math.MinInt64
	most  = math.MaxInt64
	// count is how many RIGHT dates there are.
	count = 146097
)

// The section Errors: callers may hold the number itself against an answer.
func TestErrorNumber(t *testing.T) {
	if _, err := civil.Number(api.Date{}); err != 31 {
		t.Error("a date that isn't RIGHT:", err)
	}
	if _, err := civil.Of(-1); err != 31 {
		t.Error("a number that no date has:", err)
	}
	if _, err := civil.Parse(""); err != 31 {
		t.Error("a text that no date has:", err)
	}
}

// P3.1
func TestLeap(t *testing.T) {
	for _, c := range []struct {
		year int
		want bool
	}{
		{2024, true},
		{2023, false},
		{2022, false},
		{2021, false},
		{1896, true},
		{1900, false},
		{1904, true},
		{2000, true},
		{2100, false},
		{2200, false},
		{2299, false},
		{2300, false},
		{2400, true},
		// Any year, of any sign.
		{0, true},
		{1, false},
		{4, true},
		{100, false},
		{400, true},
		{-1, false},
		{-2, false},
		{-4, true},
		{-5, false},
		{-96, true},
		{-100, false},
		{-200, false},
		{-300, false},
		{-400, true},
		{-404, true},
		{most, false},
		{most - 3, true},   // 9223372036854775804
		{most - 7, false},  // 9223372036854775800: by 100, not by 400
		{least, true},      // -9223372036854775808
		{least + 8, false}, // -9223372036854775800: by 100, not by 400
		{least + 1, false},
	} {
		if got := civil.Leap(c.year); got != c.want {
			t.Errorf("Leap(%d) = %t", c.year, got)
		}
	}
}

// P3.1: each month in both kinds of years, those with no RIGHT date too.
func TestLength(t *testing.T) {
	for _, c := range []struct {
		year, february int
	}{
		{1900, 28}, {1904, 29}, {2000, 29}, {2023, 28}, {2024, 29}, {2100, 28}, {2299, 28},
		{1899, 28}, {2300, 28}, {2400, 29}, {0, 29}, {-1, 28}, {-4, 29}, {-100, 28}, {-400, 29},
		{most, 28}, {least, 29},
	} {
		want := [...]int{0, 31, c.february, 31, 30, 31, 30, 31, 31, 30, 31, 30, 31, 0}
		for month, days := range want {
			checkLength(t, c.year, month, days)
		}
	}
}

// P3.1: what is no month has no days.
func TestLengthOfNoMonth(t *testing.T) {
	for _, year := range []int{1900, 2023, 2024, 0, -4, least, most} {
		for _, month := range []int{least, least + 1, -12, -2, -1, 0, 13, 14, 24, 256 + 1, 1<<32 + 2, most} {
			checkLength(t, year, month, 0)
		}
	}
}

func checkLength(t *testing.T, year, month, want int) {
	t.Helper()
	if got := civil.Length(year, month); got != want {
		t.Errorf("Length(%d, %d) = %d; want %d", year, month, got, want)
	}
}

// date: a shorter way to write one.
func date(year, month, day int) api.Date {
	return api.Date{Year: year, Month: month, Day: day}
}

// wrong: dates that aren't RIGHT.
func wrong() []api.Date {
	return []api.Date{
		{},
		// Years: there are such days, but before the first and behind the last one.
		date(1899, 12, 31), date(2300, 1, 1), date(0, 1, 1), date(1, 1, 1), date(-1900, 1, 1), date(9999, 12, 31),
		date(1896, 2, 29), date(2400, 2, 29), date(least, 1, 1), date(most, 12, 31), date(1<<32+2000, 1, 1),
		// Months.
		date(2000, 0, 1), date(2000, 13, 1), date(2000, -1, 1), date(2000, least, 1), date(2000, most, 1),
		date(1900, 0, 31), date(2299, 13, 1), date(2000, 1<<32+1, 1),
		// Days.
		date(2000, 1, 0), date(2000, 1, -1), date(2000, 1, 32), date(2000, 4, 31), date(2000, 12, 32),
		date(2000, 1, least), date(2000, 1, most), date(2000, 1, 1<<32+1),
		date(1900, 1, 0), date(2299, 12, 32), date(2299, 12, 0),
		// February.
		date(1900, 2, 29), date(2100, 2, 29), date(2023, 2, 29), date(2000, 2, 30), date(2024, 2, 30), date(2024, 2, 0),
	}
}

// dated is a date with all that is to be told of it.
type dated struct {
	date    api.Date
	number  int64
	weekday int
	text    string
}

func known() []dated {
	return []dated{
		{date(1900, 1, 1), 0, 0, "1900-01-01"},
		{date(1900, 1, 2), 1, 1, "1900-01-02"},
		{date(1900, 1, 31), 30, 2, "1900-01-31"},
		{date(1900, 2, 1), 31, 3, "1900-02-01"},
		{date(1900, 2, 28), 58, 2, "1900-02-28"},
		{date(1900, 3, 1), 59, 3, "1900-03-01"},
		{date(1900, 12, 31), 364, 0, "1900-12-31"},
		{date(1901, 1, 1), 365, 1, "1901-01-01"},
		{date(1904, 2, 29), 1519, 0, "1904-02-29"},
		{date(1904, 12, 31), 1825, 5, "1904-12-31"},
		{date(1905, 1, 1), 1826, 6, "1905-01-01"},
		{date(1970, 1, 1), 25567, 3, "1970-01-01"},
		{date(2000, 2, 29), 36583, 1, "2000-02-29"},
		{date(2000, 3, 1), 36584, 2, "2000-03-01"},
		{date(2000, 12, 31), 36889, 6, "2000-12-31"},
		{date(2100, 2, 28), 73107, 6, "2100-02-28"},
		{date(2100, 3, 1), 73108, 0, "2100-03-01"},
		{date(2299, 1, 1), 145732, 6, "2299-01-01"},
		{date(2299, 12, 31), count - 1, 6, "2299-12-31"},
	}
}

// P3.1
func TestRight(t *testing.T) {
	for _, c := range known() {
		if !civil.Right(c.date) {
			t.Errorf("Right(%v) = false", c.date)
		}
	}
	for _, d := range wrong() {
		if civil.Right(d) {
			t.Errorf("Right(%v) = true", d)
		}
	}
}

// P3.2
func TestNumberAndOf(t *testing.T) {
	for _, c := range known() {
		checkNumber(t, c.date, c.number, api.OK)
		checkOf(t, c.number, c.date, api.OK)
	}
}

// P3.2
func TestNumberOfWrongDates(t *testing.T) {
	for _, d := range wrong() {
		checkNumber(t, d, 0, api.ErrDate)
	}
}

// P3.2: numbers that no date has.
func TestOfWrongNumbers(t *testing.T) {
	for _, n := range []int64{-1, -2, -365, -count, least, least + 1, count, count + 1, 1 << 31, 1 << 32, 1<<32 + 5, 1 << 62, most - 1, most} {
		checkOf(t, n, api.Date{}, api.ErrDate)
	}
}

func checkNumber(t *testing.T, d api.Date, want int64, wantErr api.Errno) {
	t.Helper()
	if got, err := civil.Number(d); got != want || err != wantErr {
		t.Errorf("Number(%v) = %d, %d; want %d, %d", d, got, err, want, wantErr)
	}
}

func checkOf(t *testing.T, n int64, want api.Date, wantErr api.Errno) {
	t.Helper()
	if got, err := civil.Of(n); got != want || err != wantErr {
		t.Errorf("Of(%d) = %v, %d; want %v, %d", n, got, err, want, wantErr)
	}
}

// P3.2
func TestWeekday(t *testing.T) {
	for _, c := range known() {
		checkWeekday(t, c.number, c.weekday)
	}
	// Any number, those that no date has too.
	for n, want := range map[int64]int{
		2: 2, 3: 3, 4: 4, 5: 5, 6: 6, 7: 0,
		-1: 6, -2: 5, -3: 4, -4: 3, -5: 2, -6: 1, -7: 0, -8: 6, -14: 0,
		count: 0, count + 1: 1,
		most: 0, most - 1: 6, most - 6: 1, most - 7: 0, // 2^63 leaves 1, by 7
		least: 6, least + 1: 0, least + 6: 5, least + 7: 6,
	} {
		checkWeekday(t, n, want)
	}
}

// P3.2: each day of the week is behind the one before, on both sides of 0.
func TestWeekdaysGoOn(t *testing.T) {
	for _, from := range []int64{-1000, -10, least, most - 1000, count - 10} {
		for step := range int64(1000) {
			n := from + step
			checkWeekday(t, n+1, (civil.Weekday(n)+1)%7)
		}
	}
}

func checkWeekday(t *testing.T, n int64, want int) {
	t.Helper()
	if got := civil.Weekday(n); got != want {
		t.Errorf("Weekday(%d) = %d; want %d", n, got, want)
	}
}

// P3.3
func TestTextAndParse(t *testing.T) {
	for _, c := range known() {
		checkText(t, c.date, c.text)
		checkParse(t, c.text, c.date, api.OK)
	}
}

// P3.3
func TestTextOfWrongDates(t *testing.T) {
	for _, d := range wrong() {
		checkText(t, d, "")
	}
}

// P3.3: texts that no date has.
func TestParseWrongTexts(t *testing.T) {
	for _, s := range []string{
		// Too short, or too long.
		"", "-", "2", "--", "2000", "2000-", "2000-01", "2000-01-", "2000-01-0", "2000-01-1", "2000-1-01", "200-01-01",
		"2000-1-1", "2000-01-010", "02000-01-01", "2000-001-01", "2000-01-01-", " 2000-01-01", "2000-01-01 ", "2000-01-01\x00", "2000-01-01\n",
		"20000101", "000-01-0001", "2000-01-012000-01-01",
		// As long as a text must be.
		"          ", "----------", "0000000000", "2000001001", "2000/01/01", "2000.01.01", "2000-01/01", "2000/01-01",
		"2000-01-1 ", "2000-01- 1", "2000- 1-01", " 200-01-01", "2000-1--01", "2000--1-01", "2000-01--1", "2000-+1-01",
		"+200-01-01", "-200-01-01", "-2000-1-01", "2000-1-001", "200-001-01", "20-00-01-01", "20000-1-01", "2000-01-1-", "01-01-2000", "01/01/2000",
		"0x7d-01-01", "2e03-01-01", "2_00-01-01", "2000-0a-01", "2000-01-0x", "YYYY-MM-DD", "abcd-ef-gh",
		"\x002000-01-0", "2000-01-0\x00", "2000\x0001-01", "\xff000-01-01",
		// ':' stands behind '9' and would be a ten, '/' before '0' and would be one below it.
		"1:00-01-01", "19:0-01-01", "199:-01-01", "2000-0:-01", "2000-01-0:", "2000-01-1:", "200/-01-01", "2000-1/-01", "2000-01-2/", "2000-01-/:",
		// Digits of other scripts, and dashes: some are ten bytes long in all.
		"２０００-01-01", "200０-01-01", "2０-01-01", "2000-０-1", "2000-0１-01", "2000–01–01", "2000‐01-01", "200‐01-01", "20-01–01", "٢٠٠٠-01-01", "٢٠-01-01",
		// No such day.
		"1900-02-29", "2100-02-29", "2023-02-29", "2000-02-30", "2000-04-31", "2000-01-32", "2000-01-99", "2000-01-00", "2000-00-01", "2000-13-01", "2000-99-01",
		"1900-00-31", "2299-13-01", "1900-01-00", "2299-12-32", "2000-00-00",
		// Days before the first, and behind the last one.
		"1899-12-31", "2300-01-01", "0000-01-01", "0000-00-00", "0001-01-01", "1896-02-29", "2400-02-29", "9999-12-31", "9999-99-99",
	} {
		checkParse(t, s, api.Date{}, api.ErrDate)
	}
}

func checkText(t *testing.T, d api.Date, want string) {
	t.Helper()
	if got := civil.Text(d); got != want {
		t.Errorf("Text(%v) = %q; want %q", d, got, want)
	}
}

func checkParse(t *testing.T, s string, want api.Date, wantErr api.Errno) {
	t.Helper()
	if got, err := civil.Parse(s); got != want || err != wantErr {
		t.Errorf("Parse(%q) = %v, %d; want %v, %d", s, got, err, want, wantErr)
	}
}
