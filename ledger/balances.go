package ledger

import (
	"falsework/api"
	"falsework/wide"
)

// balances are those of all accounts; one account's place is its number.
type balances [api.Accounts]int64

// with: what they are once these legs are in; each leg's account must be one that there is.
func (b balances) with(legs []api.Leg) (balances, api.Errno) {
	for account, balance := range b {
		// All of an account's amounts at once: on the way a balance may leave 64 bits and come back.
		amounts := []int64{balance}
		for _, leg := range legs {
			if leg.Account == account {
				amounts = append(amounts, leg.Amount)
			}
		}
		sum, err := wide.Sum(amounts...)
		if err != api.OK {
			return balances{}, err
		}
		b[account] = sum
	}
	return b, api.OK
}

// sides: those above 0 together, and those below 0, without the sign.
func (b balances) sides() (int64, int64, api.Errno) {
	var above, below balances
	for account, balance := range b {
		above[account], below[account] = max(balance, 0), min(balance, 0)
	}
	debits, err := wide.Sum(above[:]...)
	if err != api.OK {
		return 0, 0, err
	}
	sum, err := wide.Sum(below[:]...)
	if err != api.OK {
		return 0, 0, err
	}
	credits, err := wide.Sub(0, sum)
	if err != api.OK {
		return 0, 0, err
	}
	return debits, credits, api.OK
}
