package auditbook_test

import (
	"encoding/hex"
	"strconv"
	"strings"
	"sync"
)

// The signatures here are made and checked in another way than the program's: chain by chain, with digits read from hexadecimal text, and with the library's SHA-256.

func refSteps(value string, n int) string {
	for range n {
		value = refSum("\x02", value)
	}
	return value
}

func refBegin(seed string, k, chain int) string {
	return refSum("K", seed, string([]byte{byte(k), byte(chain)}))
}

func refDigits(msg string) []int {
	text := hex.EncodeToString([]byte(refSum(msg)))
	lack := 0
	for _, digit := range text {
		n, _ := strconv.ParseInt(string(digit), 16, 0)
		lack += 15 - int(n)
	}
	last := strconv.FormatInt(int64(lack), 16)
	text += strings.Repeat("0", 3-len(last)) + last
	all := make([]int, len(text))
	for i, digit := range text {
		n, _ := strconv.ParseInt(string(digit), 16, 0)
		all[i] = int(n)
	}
	return all
}

// refKeys are the leaves of the greatest tree of keys of a seed, whose first ones are those of the smaller trees.
type refKeys struct {
	seed   string
	leaves []string
}

func newRefKeys(seed string) refKeys {
	keys := refKeys{seed, make([]string, 32)}
	var all sync.WaitGroup
	for k := range keys.leaves {
		all.Go(func() {
			var ends strings.Builder
			for chain := range 67 {
				ends.WriteString(refSteps(refBegin(seed, k, chain), 15))
			}
			keys.leaves[k] = ends.String()
		})
	}
	all.Wait()
	return keys
}

func (r refKeys) public(height int) string { return refRoot(r.leaves[:1<<height]) }

// signAs signs with digits that need not be a message's.
func (r refKeys) signAs(height, k int, digits []int) string {
	var sig strings.Builder
	sig.WriteByte(byte(k))
	for chain, n := range digits {
		sig.WriteString(refSteps(refBegin(r.seed, k, chain), n))
	}
	for _, h := range refInclusion(r.leaves[:1<<height], k) {
		sig.WriteString(h)
	}
	return sig.String()
}

func (r refKeys) sign(height, k int, msg string) string {
	return r.signAs(height, k, refDigits(msg))
}

// refLeafOf is the leaf to which the values of a signature lead.
func refLeafOf(values, msg string) string {
	var ends strings.Builder
	for chain, n := range refDigits(msg) {
		ends.WriteString(refSteps(values[chain*32:chain*32+32], 15-n))
	}
	return ends.String()
}

// refSigned tells if P9 takes a signature, of a key and a height that are such.
func refSigned(key string, height int, msg, sig string) bool {
	if len(sig) != 1+32*(67+height) || int(sig[0]) >= 1<<height {
		return false
	}
	values, path := sig[1:1+67*32], sig[1+67*32:]
	return refInclusionHolds(refLeafOf(values, msg), int(sig[0]), 1<<height, key, cut(path))
}
