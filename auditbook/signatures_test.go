package auditbook_test

import (
	"encoding/hex"
	"math"
	"strings"
	"sync"
	"testing"
	"unsafe"

	"auditbook/api"
	"auditbook/auditbook"
)

// aSeed has bytes that are all different.
func aSeed() string {
	b := make([]byte, 32)
	for i := range b {
		b[i] = byte(i)
	}
	return string(b)
}

func mustKey(t *testing.T, seed string, height int) string {
	t.Helper()
	key, err := auditbook.PublicKey(seed, height)
	if err != nil {
		t.Fatalf("P8: PublicKey of height %d: %v", height, err)
	}
	return key
}

func mustSign(t *testing.T, seed string, height, k int, msg string) string {
	t.Helper()
	sig, err := auditbook.Sign(seed, height, k, msg)
	if err != nil {
		t.Fatalf("P8: Sign with key %d of height %d: %v", k, height, err)
	}
	return sig
}

func wantSigned(t *testing.T, what, key string, height int, msg, sig string, want int) {
	t.Helper()
	k, err := auditbook.Check(key, height, msg, sig)
	if err != nil || k != want {
		t.Errorf("%s: %d, %v, want %d", what, k, err, want)
	}
}

func wantNoKey(t *testing.T, what, key string, height int, msg, sig string, want error) {
	t.Helper()
	k, err := auditbook.Check(key, height, msg, sig)
	wantErr(t, what, err, want)
	if k != 0 {
		t.Errorf("P1: %s: the key %d with an error", what, k)
	}
}

// messages are of no byte, of one, around the edges of a hash's block, and of many.
func messages() []string {
	all := []string{"", "\x00", "a", "\xff", "H\x00\x00\x00\x01" + refSum("root")}
	for _, n := range []int{2, 31, 32, 33, 55, 56, 63, 64, 65, 1000, 1 << 20} {
		all = append(all, pattern(n))
	}
	return all
}

func TestKnownKeys(t *testing.T) {
	for height, want := range []string{
		"44267bf42c2d1f99cc5f5bb4f11a97dfd2a3470187fa3090d548d3a45ab98a4c",
		"2499de7650029c499d0a3c85c652b40f91d2b24860ca4198e7f788d02427516e",
		"52b6f05e169cc03f6174d42ee3785f3caefd451d1df266625d2db9abfbc5e1c5",
		"e8d7d98d3709fb453b4d2bdb118d7a21e5fd8a0b8c7b40922821da6c5e206a0c",
		"685173c24c7ea343cf42654a54903139fbca303110860c901379a2614de87d45",
		"bbebdbb149a73e7a5a9b52cc4f1882d9c6e75b35bf990b34d61f8c75895d3e87",
	} {
		if got := hex.EncodeToString([]byte(mustKey(t, aSeed(), height))); got != want {
			t.Errorf("P8: PublicKey of height %d: %s, want %s", height, got, want)
		}
	}
}

func TestKnownSignatures(t *testing.T) {
	for _, c := range []struct {
		height, k, size int
		msg, want       string
	}{
		{0, 0, 2145, "", "e1c0d1e93a96da7ece91952396b0e5f64a7dce9b9f5c233f0735d1342ae0537e"},
		{1, 1, 2177, "a", "703d39dfe94b9334b319b75d385530bba211d9f88d9aed5d2bdb23bbc468a1d6"},
		{3, 5, 2241, "a message", "0f35a924f1e35056b2ecef5d69c493625b0e79b9e0f29b173b59c4a37fd15411"},
		{5, 31, 2305, strings.Repeat("m", 1000), "faf5870e5051b7439c72b6dca3dddbe47b34ec630e96ac515ea0efcd2fe1948d"},
	} {
		sig := mustSign(t, aSeed(), c.height, c.k, c.msg)
		if got := hex.EncodeToString([]byte(refSum(sig))); got != c.want || len(sig) != c.size {
			t.Errorf("P8: Sign with key %d of height %d: %d bytes, whose hash is %s", c.k, c.height, len(sig), got)
		}
	}
}

func TestExampleOfOneKey(t *testing.T) {
	seed := refSum("seed")
	keys := newRefKeys(seed)
	if mustKey(t, seed, 0) != refSum("\x00", keys.leaves[0]) {
		t.Error("P8: with height 0 the public key is not Sum([0] | leaf 0)")
	}
	if n := len(mustSign(t, seed, 0, 0, "m")); n != 2145 {
		t.Errorf("P8: with height 0 a signature has %d bytes", n)
	}
}

func TestEveryKeyOfEveryHeight(t *testing.T) {
	for _, seed := range []string{aSeed(), refSum("seed"), noughts, strings.Repeat("\xff", 32)} {
		keys := newRefKeys(seed)
		for height := range api.MaxHeight + 1 {
			key := mustKey(t, seed, height)
			if key != keys.public(height) {
				t.Fatalf("P8: PublicKey of height %d: %x, want %x", height, key, keys.public(height))
			}
			for k := range 1 << height {
				msg := pattern(k * 5)
				sig := mustSign(t, seed, height, k, msg)
				if sig != keys.sign(height, k, msg) {
					t.Fatalf("P8: Sign with key %d of height %d is another signature", k, height)
				}
				wantSigned(t, "P9: Check of a signature", key, height, msg, sig, k)
			}
		}
	}
}

func TestEveryMessage(t *testing.T) {
	seed := refSum("seed")
	keys := newRefKeys(seed)
	key := mustKey(t, seed, 2)
	for i, msg := range messages() {
		sig := mustSign(t, seed, 2, i%4, msg)
		if sig != keys.sign(2, i%4, msg) {
			t.Fatalf("P8: Sign of %d bytes is another signature", len(msg))
		}
		wantSigned(t, "P9: Check of a message", key, 2, msg, sig, i%4)
	}
}

// wrongHeights are no heights, though some of them end with the bits of one.
func wrongHeights() []int {
	return []int{-1, -2, -5, 6, 7, 8, 31, 32, 63, 64, 65, 255, 256, 257, 1 << 32, 1<<32 + 1, math.MinInt, math.MinInt + 1, math.MaxInt, math.MaxInt - 1}
}

// wrongSeeds are texts that are neither seeds nor public keys.
func wrongSeeds() []string {
	return []string{"", "x", pattern(16), pattern(30), pattern(31), pattern(33), pattern(34), pattern(64), pattern(1 << 16)}
}

func wantNoSeed(t *testing.T, seed string, height int) {
	t.Helper()
	key, err := auditbook.PublicKey(seed, height)
	wantErr(t, "P8: PublicKey of no seed or height", err, api.ErrSeed)
	if key != "" {
		t.Errorf("P1: PublicKey: %x with an error", key)
	}
	for _, k := range []int{0, 1, -1, 32, math.MinInt, math.MaxInt} {
		sig, err := auditbook.Sign(seed, height, k, "m")
		wantErr(t, "P8: Sign with no seed or height", err, api.ErrSeed)
		if sig != "" {
			t.Errorf("P1: Sign: %x with an error", sig)
		}
	}
	for _, n := range []int{0, 1, 2144, 2145, 2177, 2305} {
		wantNoKey(t, "P9: Check with no key or height", seed, height, "m", strings.Repeat("\x00", n), api.ErrSeed)
	}
}

func TestNoSeedOrHeight(t *testing.T) {
	for _, seed := range wrongSeeds() {
		for _, height := range append(wrongHeights(), 0, 1, 5) {
			wantNoSeed(t, seed, height)
		}
	}
	for _, height := range wrongHeights() {
		wantNoSeed(t, aSeed(), height)
	}
}

func TestNoKeysNumber(t *testing.T) {
	for height := range api.MaxHeight + 1 {
		n := 1 << height
		for _, k := range []int{-1, -2, -n, n, n + 1, 2 * n, 255 + n, 256, 256 + n - 1, 1 << 32, 1<<32 + n - 1, math.MinInt, math.MaxInt} {
			if 0 <= k && k < n {
				continue
			}
			sig, err := auditbook.Sign(aSeed(), height, k, "m")
			wantErr(t, "P8: Sign with no key's number", err, api.ErrIndex)
			if sig != "" {
				t.Errorf("P1: Sign with key %d of height %d: %x with an error", k, height, sig)
			}
		}
	}
}

func TestSignatureOfAnotherLengthRefused(t *testing.T) {
	for height := range api.MaxHeight + 1 {
		key := mustKey(t, aSeed(), height)
		sig := mustSign(t, aSeed(), height, 0, "m")
		for _, wrong := range []string{
			"", sig[:1], sig[1:], sig[:len(sig)-1], sig + "\x00", "\x00" + sig, sig[:len(sig)-32], sig + noughts, sig[:2144], sig + sig,
			sig[:1+66*32] + sig[1+67*32:], sig[:33] + sig[1:],
		} {
			wantNoKey(t, "P9: Check of a signature of another length", key, height, "m", wrong, api.ErrSignature)
		}
	}
}

// The number of each key is a first byte; all others are refused, whatever stands behind them.
func TestEveryFirstByte(t *testing.T) {
	keys := newRefKeys(aSeed())
	for height := range api.MaxHeight + 1 {
		key := keys.public(height)
		for _, k := range []int{0, 1<<height - 1} {
			sig := keys.sign(height, k, "m")
			for first := range 256 {
				if first != k {
					wantNoKey(t, "P9: Check of another first byte", key, height, "m", string([]byte{byte(first)})+sig[1:], api.ErrSignature)
				}
			}
		}
	}
}

func turn(text string, at, bit int) string {
	b := []byte(text)
	b[at] ^= 1 << bit
	return string(b)
}

func TestEveryByteOfASignatureCounts(t *testing.T) {
	for _, height := range []int{0, 3} {
		key := mustKey(t, aSeed(), height)
		sig := mustSign(t, aSeed(), height, 1<<height-1, "m")
		for at := range sig {
			wantNoKey(t, "P9: Check of a signature with a bit turned", key, height, "m", turn(sig, at, at*5%8), api.ErrSignature)
		}
		for bit := range 8 {
			for _, at := range []int{0, 1, 32, 33, 1 + 63*32, 1 + 64*32, 66 * 32, 67 * 32, len(sig) - 1} {
				wantNoKey(t, "P9: Check of a signature with a bit turned", key, height, "m", turn(sig, at, bit), api.ErrSignature)
			}
			for at := range key {
				wantNoKey(t, "P9: Check by a key with a bit turned", turn(key, at, bit), height, "m", sig, api.ErrSignature)
			}
		}
	}
}

func TestAnotherMessageRefused(t *testing.T) {
	key := mustKey(t, aSeed(), 1)
	for i, msg := range messages() {
		sig := mustSign(t, aSeed(), 1, i%2, msg)
		for j, other := range messages() {
			if i != j {
				wantNoKey(t, "P9: Check of another message", key, 1, other, sig, api.ErrSignature)
			}
		}
		wantNoKey(t, "P9: Check of a longer message", key, 1, msg+"\x00", sig, api.ErrSignature)
		wantNoKey(t, "P9: Check of a message's hash", key, 1, refSum(msg), sig, api.ErrSignature)
	}
}

func TestAnotherKeyOrHeightRefused(t *testing.T) {
	others := []string{noughts, refSum(), strings.Repeat("\xff", 32), aSeed()}
	for height := range api.MaxHeight + 1 {
		others = append(others, mustKey(t, refSum("other seed"), height))
	}
	keys := newRefKeys(aSeed())
	for height := range api.MaxHeight + 1 {
		sig := keys.sign(height, 0, "m")
		for _, other := range others {
			wantNoKey(t, "P9: Check by another key", other, height, "m", sig, api.ErrSignature)
		}
		for wrong := range api.MaxHeight + 1 {
			if wrong == height {
				continue
			}
			wantNoKey(t, "P9: Check by another height", keys.public(height), wrong, "m", sig, api.ErrSignature)
			wantNoKey(t, "P9: Check by the key of another height", keys.public(wrong), height, "m", sig, api.ErrSignature)
			wantNoKey(t, "P9: Check by key and height of another tree", keys.public(wrong), wrong, "m", sig, api.ErrSignature)
		}
	}
}

// A signature is of one message, one key's number and one seed: pieces of others do not go with it.
func TestMixedSignaturesRefused(t *testing.T) {
	keys, others := newRefKeys(aSeed()), newRefKeys(refSum("other seed"))
	key := keys.public(2)
	sig := keys.sign(2, 2, "m")
	const end = 1 + 67*32
	for _, other := range []string{keys.sign(2, 3, "m"), keys.sign(2, 0, "m"), others.sign(2, 2, "m")} {
		wantNoKey(t, "P9: the values of another", key, 2, "m", sig[:1]+other[1:end]+sig[end:], api.ErrSignature)
		wantNoKey(t, "P9: the rest of another", key, 2, "m", sig[:end]+other[end:], api.ErrSignature)
	}
	wantNoKey(t, "P9: the values of another message", key, 2, "m", sig[:1]+keys.sign(2, 2, "n")[1:end]+sig[end:], api.ErrSignature)
	for chain := range 66 {
		at := 1 + chain*32
		wantNoKey(t, "P9: two values that changed places", key, 2, "m", sig[:at]+sig[at+32:at+64]+sig[at:at+32]+sig[at+64:], api.ErrSignature)
	}
	wantNoKey(t, "P9: two hashes that changed places", key, 2, "m", sig[:end]+sig[end+32:]+sig[end:end+32], api.ErrSignature)
}

// Steps that a digit does not say are refused, more of them and less: so a signature can't be gone on to one of another message.
func TestOtherStepsRefused(t *testing.T) {
	keys := newRefKeys(aSeed())
	key := keys.public(1)
	digits := refDigits("m")
	for chain, n := range digits {
		for _, other := range []int{n - 1, n + 1, 0, 15} {
			if other == n || other < 0 || other > 15 {
				continue
			}
			wrong := append([]int(nil), digits...)
			wrong[chain] = other
			wantNoKey(t, "P9: Check of other steps", key, 1, "m", keys.signAs(1, 1, wrong), api.ErrSignature)
		}
	}
	wantSigned(t, "P9: Check of just these steps", key, 1, "m", keys.signAs(1, 1, digits), 1)
}

// Check knows no seed: values and hashes of any make are taken, if they lead to the key.
func TestSignatureOfAnyMake(t *testing.T) {
	for height := range api.MaxHeight + 1 {
		values := pattern(67 * 32)
		for _, msg := range []string{"", "a message"} {
			for k := range 1 << height {
				path := pattern(height*32 + k)[k:]
				key := refLeaf(refLeafOf(values, msg))
				for level, beside := range cut(path) {
					if k>>level&1 == 1 {
						key = refJoin(beside, key)
					} else {
						key = refJoin(key, beside)
					}
				}
				sig := string([]byte{byte(k)}) + values + path
				wantSigned(t, "P9: Check of a signature of any make", key, height, msg, sig, k)
				wantNoKey(t, "P9: Check of one that leads elsewhere", refSum(key), height, msg, sig, api.ErrSignature)
			}
		}
	}
}

// lend gives a text whose bytes can be seen and written over behind its back.
func lend(text string) (string, []byte) {
	b := []byte(text)
	return unsafe.String(unsafe.SliceData(b), len(b)), b
}

// bytesOf gives the bytes that a text stands on, which must be on no constant's place.
func bytesOf(text string) []byte { return unsafe.Slice(unsafe.StringData(text), len(text)) }

func TestTextsForSigningAreNeitherWrittenIntoNorKept(t *testing.T) {
	seed, msg := aSeed(), pattern(200)
	key := strings.Clone(mustKey(t, seed, 3))
	sig := strings.Clone(mustSign(t, seed, 3, 6, msg))
	lentSeed, seedBytes := lend(seed)
	lentMsg, msgBytes := lend(msg)
	lentKey, keyBytes := lend(key)
	lentSig, sigBytes := lend(sig)

	madeKey := mustKey(t, lentSeed, 3)
	madeSig := mustSign(t, lentSeed, 3, 6, lentMsg)
	wantSigned(t, "P9: Check", lentKey, 3, lentMsg, lentSig, 6)
	if string(seedBytes) != seed || string(msgBytes) != msg || string(keyBytes) != key || string(sigBytes) != sig {
		t.Error("P2: a text that was handed in was written into")
	}

	for _, b := range [][]byte{seedBytes, msgBytes, keyBytes, sigBytes} {
		for i := range b {
			b[i] ^= 0x55
		}
	}
	if madeKey != key || madeSig != sig {
		t.Error("P2: what came out hangs on a text that was handed in still")
	}
	wantSigned(t, "P2: Check behind that", key, 3, msg, sig, 6)
	wantNoKey(t, "P2: Check of other bytes at the same place", lentKey, 3, lentMsg, lentSig, api.ErrSignature)
	if mustKey(t, lentSeed, 3) != newRefKeys(string(seedBytes)).public(3) {
		t.Error("P2: PublicKey answers for a seed as it was")
	}
}

// No key is used up by Sign: what it answers hangs on its arguments alone.
func TestSigningAgainIsTheSame(t *testing.T) {
	first := mustSign(t, aSeed(), 2, 1, "m")
	mustSign(t, aSeed(), 2, 1, "n")
	_, err := auditbook.Sign(aSeed(), 2, 4, "m")
	wantErr(t, "P8: Sign with no key's number", err, api.ErrIndex)
	if mustSign(t, aSeed(), 2, 1, "m") != first {
		t.Error("P2: Sign answers otherwise the second time")
	}
	key := mustKey(t, aSeed(), 2)
	for range 2 {
		wantSigned(t, "P2: Check over and over", key, 2, "m", first, 1)
		wantNoKey(t, "P2: Check over and over", key, 2, "n", first, api.ErrSignature)
	}
}

func TestSigningAtTheSameTime(t *testing.T) {
	keys := newRefKeys(aSeed())
	var all sync.WaitGroup
	for n := range 8 {
		all.Go(func() {
			msg := pattern(n)
			for height := range api.MaxHeight + 1 {
				k := n % (1 << height)
				sig, err := auditbook.Sign(aSeed(), height, k, msg)
				if err != nil || sig != keys.sign(height, k, msg) {
					t.Errorf("P8: Sign with key %d of height %d: %v", k, height, err)
				}
				wantSigned(t, "P9: Check", keys.public(height), height, msg, sig, k)
			}
		})
	}
	all.Wait()
}

// FuzzSign: whatever is handed in, there is the signature that P8 says, and Check takes it; or the error that P8 says.
func FuzzSign(f *testing.F) {
	f.Add(aSeed(), 0, 0, "")
	f.Add(aSeed(), 2, 3, "m")
	f.Add(aSeed(), 2, 4, "m")
	f.Add(aSeed(), 6, 0, "m")
	f.Add("", -1, -1, "")
	f.Fuzz(func(t *testing.T, seed string, height, k int, msg string) {
		key, keyErr := auditbook.PublicKey(seed, height)
		sig, err := auditbook.Sign(seed, height, k, msg)
		switch {
		case len(seed) != 32 || height < 0 || height > 5:
			wantErr(t, "P8: PublicKey", keyErr, api.ErrSeed)
			wantErr(t, "P8: Sign", err, api.ErrSeed)
		case k < 0 || k >= 1<<height:
			wantNil(t, "P8: PublicKey", keyErr)
			wantErr(t, "P8: Sign", err, api.ErrIndex)
		default:
			if keys := newRefKeys(seed); keyErr != nil || err != nil || key != keys.public(height) || sig != keys.sign(height, k, msg) {
				t.Errorf("P8: with key %d of height %d: %v, %v", k, height, keyErr, err)
			}
			wantSigned(t, "P9: Check", key, height, msg, sig, k)
		}
		if keyErr != nil && key != "" || err != nil && sig != "" {
			t.Error("P1: a result with an error")
		}
	})
}

// FuzzCheck: whatever is handed in, what P9 says is taken, and nothing else.
func FuzzCheck(f *testing.F) {
	keys := newRefKeys(aSeed())
	for height := range api.MaxHeight + 1 {
		f.Add(keys.public(height), height, "m", keys.sign(height, 1<<height-1, "m"))
	}
	f.Add("", 0, "", "")
	f.Add(noughts, 6, "", "")
	f.Fuzz(func(t *testing.T, key string, height int, msg, sig string) {
		switch {
		case len(key) != 32 || height < 0 || height > 5:
			wantNoKey(t, "P9: Check", key, height, msg, sig, api.ErrSeed)
		case refSigned(key, height, msg, sig):
			wantSigned(t, "P9: Check", key, height, msg, sig, int(sig[0]))
		default:
			wantNoKey(t, "P9: Check", key, height, msg, sig, api.ErrSignature)
		}
	})
}
