package civil_test

import (
	"strings"
	"testing"
	"time"

	"falsework/api"
	"falsework/civil"
	"falsework/mixer"
)

// Here every call is held against package time, whose calendar is the Gregorian one too: all days, and all dates around them.

func modelTime(d api.Date) time.Time {
	return time.Date(d.Year, time.Month(d.Month), d.Day, 0, 0, 0, 0, time.UTC)
}

func modelDate(at time.Time) api.Date {
	return date(at.Year(), int(at.Month()), at.Day())
}

// modelRight: package time makes another day of one that isn't there.
func modelRight(d api.Date) bool {
	return modelDate(modelTime(d)) == d && d.Year >= 1900 && d.Year <= 2299
}

// P3.1, P3.2, P3.3
func TestAllDays(t *testing.T) {
	day := modelTime(date(1900, 1, 1))
	for n := range int64(count) {
		want := dated{modelDate(day), n, (int(day.Weekday()) + 6) % 7, day.Format("2006-01-02")}
		checkDated(t, want)
		if t.Failed() {
			return
		}
		day = day.AddDate(0, 0, 1)
	}
	if last := day.AddDate(0, 0, -1); modelDate(last) != date(2299, 12, 31) {
		t.Error("these were not all days:", last)
	}
}

func checkDated(t *testing.T, c dated) {
	t.Helper()
	if !civil.Right(c.date) {
		t.Errorf("Right(%v) = false", c.date)
	}
	checkNumber(t, c.date, c.number, api.OK)
	checkOf(t, c.number, c.date, api.OK)
	checkWeekday(t, c.number, c.weekday)
	checkText(t, c.date, c.text)
	checkParse(t, c.text, c.date, api.OK)
}

// P3.1, P3.2, P3.3: what is no date, or none that is RIGHT, by a few in each field.
func TestAllDatesAround(t *testing.T) {
	right := 0
	for year := 1890; year <= 2310; year++ {
		for month := -2; month <= 15; month++ {
			for day := -2; day <= 34; day++ {
				d := date(year, month, day)
				if modelRight(d) {
					right++
				} else {
					checkWrongDate(t, d)
				}
			}
		}
	}
	if right != count {
		t.Error("RIGHT dates:", right)
	}
}

func checkWrongDate(t *testing.T, d api.Date) {
	t.Helper()
	if civil.Right(d) {
		t.Errorf("Right(%v) = true", d)
	}
	checkNumber(t, d, 0, api.ErrDate)
	checkText(t, d, "")
}

// P3.1: all years around 0, and months by the day before the next one's first.
func TestLengthsByModel(t *testing.T) {
	for year := -900; year <= 2900; year++ {
		for month := 1; month <= 12; month++ {
			checkLength(t, year, month, modelTime(date(year, month+1, 0)).Day())
		}
		if got, want := civil.Leap(year), modelTime(date(year, 12, 31)).YearDay() == 366; got != want {
			t.Errorf("Leap(%d) = %t", year, got)
		}
	}
}

// P3.1, P3.2, P3.3: fields and numbers of all sizes.
func TestNumbersOfAllSizes(t *testing.T) {
	m := mixer.Mixer(1)
	for range 100000 {
		d := date(int(m.AnySize()), int(m.AnySize()), int(m.AnySize()))
		if d.Year < 1900 || d.Year > 2299 || d.Month < 1 || d.Month > 12 || d.Day < 1 || d.Day > 31 {
			checkWrongDate(t, d)
		}
		n := m.AnySize()
		if n < 0 || n >= count {
			checkOf(t, n, api.Date{}, api.ErrDate)
		}
		weekday := n % 7
		if weekday < 0 {
			weekday += 7
		}
		checkWeekday(t, n, int(weekday))
	}
}

// checkParseByModel: the text is a date's, if it is told the same way again.
func checkParseByModel(t *testing.T, s string) {
	t.Helper()
	at, err := time.Parse("2006-01-02", s)
	if err == nil && at.Format("2006-01-02") == s && modelRight(modelDate(at)) {
		checkParse(t, s, modelDate(at), api.OK)
		return
	}
	checkParse(t, s, api.Date{}, api.ErrDate)
}

// P3.3: another byte at a place, all of them; at two places, those that are near digits and dashes.
func TestTextsWithOtherBytes(t *testing.T) {
	near := "0123456789-/:+. aZ\x00\xff"
	for _, c := range known() {
		for i := range len(c.text) {
			for b := range 256 {
				checkParseByModel(t, with(c.text, i, byte(b)))
			}
			for j := range i {
				for k := range len(near) * len(near) {
					checkParseByModel(t, with(with(c.text, i, near[k%len(near)]), j, near[k/len(near)]))
				}
			}
		}
	}
}

// with: a text with another byte at a place.
func with(s string, place int, b byte) string {
	return s[:place] + string([]byte{b}) + s[place+1:]
}

// P3.3: a byte more, or fewer, at each place.
func TestTextsOfOtherLengths(t *testing.T) {
	for _, c := range known() {
		for i := range len(c.text) {
			checkParse(t, c.text[:i], api.Date{}, api.ErrDate)
			checkParse(t, c.text[i+1:], api.Date{}, api.ErrDate)
			checkParse(t, c.text[:i]+c.text[i+1:], api.Date{}, api.ErrDate)
			for _, b := range []string{"0", "1", "-", " ", "\x00"} {
				checkParse(t, c.text[:i]+b+c.text[i:], api.Date{}, api.ErrDate)
				checkParse(t, c.text+b, api.Date{}, api.ErrDate)
			}
		}
	}
	checkParse(t, strings.Repeat("2000-01-01", 100000), api.Date{}, api.ErrDate)
	checkParse(t, strings.Repeat("0", 100000), api.Date{}, api.ErrDate)
}
