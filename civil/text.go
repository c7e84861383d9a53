package civil

import "falsework/api"

// layout is how a date's text looks.
const layout = "YYYY-MM-DD"

// Text: a date's text.
func Text(d api.Date) string {
	if !Right(d) {
		return ""
	}
	return digits(d.Year, 4) + "-" + digits(d.Month, 2) + "-" + digits(d.Day, 2)
}

// digits: the last so many digits of a number that isn't below 0.
func digits(n, count int) string {
	text := make([]byte, count)
	for i := count - 1; i >= 0; i-- {
		text[i] = byte('0' + n%10)
		n /= 10
	}
	return string(text)
}

// Parse: a text's date.
func Parse(s string) (api.Date, api.Errno) {
	if len(s) != len(layout) {
		return api.Date{}, api.ErrDate
	}
	d := api.Date{Year: value(s[:4]), Month: value(s[5:7]), Day: value(s[8:])}
	// If any date has this text, it is d: so what isn't a digit, or no dash, or no such day, need not be asked for one by one.
	if Text(d) != s {
		return api.Date{}, api.ErrDate
	}
	return d, api.OK
}

// value: the number that has these digits; some number, if they aren't digits.
func value(text string) int {
	n := 0
	for i := range len(text) {
		n = 10*n + int(text[i]) - '0'
	}
	return n
}
