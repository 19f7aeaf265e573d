package sign

import (
	"auditbook/api"
	"auditbook/hash"
)

// What a hash is made of begins with one of these, so that no step and no beginning can pass for a leaf or a tree.
const (
	beginMark = "K"
	stepMark  = "\x02"
)

const (
	messageDigits = 2 * api.HashSize
	lackDigits    = 3
	chainCount    = messageDigits + lackDigits
	topDigit      = 15 // as many steps has a whole chain
	digitBits     = 4
)

// goAlong goes along all chains of a key: along each from what begin gives for it, as many steps as steps says. It gives the values at which it ends, one behind the other.
func goAlong(begin func(chain int) hash.Hash, steps func(chain int) int) string {
	values := make([]byte, 0, chainCount*api.HashSize)
	for chain := range chainCount {
		value := begin(chain)
		for range steps(chain) {
			value = hash.Of(stepMark, value.Text())
		}
		values = append(values, value[:]...)
	}
	return string(values)
}

// digits tells for each chain how many steps of it a signature of this hash shows. The last ones tell how much the others lack: whoever goes on along a chain of the others would have to go back along one of these.
func digits(h hash.Hash) [chainCount]int {
	var all [chainCount]int
	lack := 0
	for i, b := range h {
		high, low := int(b>>digitBits), int(b&topDigit)
		all[2*i], all[2*i+1] = high, low
		lack += topDigit - high + topDigit - low
	}
	for i := range lackDigits {
		all[chainCount-1-i] = lack >> (i * digitBits) & topDigit
	}
	return all
}
