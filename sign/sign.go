// Package sign signs messages, and checks signatures: with keys that sign once, made of chains of hashes, under a tree of hashes whose root is the public key.
package sign

import (
	"auditbook/api"
	"auditbook/hash"
	"auditbook/tree"
)

const (
	valuesAt = 1 // behind the key's number
	pathAt   = valuesAt + chainCount*api.HashSize
)

// PublicKey gives what signatures are checked by, or ErrSeed if the seed or the height is none.
func PublicKey(seed string, height int) (string, error) {
	if !Fits(seed, height) {
		return "", api.ErrSeed
	}
	return tree.Root(leaves(seed, height)).Text(), nil
}

// Sign signs a message with key k; ErrSeed or ErrIndex tells that there is no such key.
func Sign(seed string, height, k int, msg string) (string, error) {
	if !Fits(seed, height) {
		return "", api.ErrSeed
	}
	path, err := tree.Inclusion(leaves(seed, height), k)
	if err != nil {
		return "", err
	}
	shown := digits(hash.Of(msg))
	values := goAlong(beginnings(seed, k), func(chain int) int { return shown[chain] })
	sig := make([]byte, 0, Size(height))
	sig = append(sig, byte(k))
	sig = append(sig, values...)
	for _, beside := range path {
		sig = append(sig, beside...)
	}
	return string(sig), nil
}

// Check gives the number of the key that signed the message; ErrSeed if the public key or the height is none, ErrSignature if none of its keys did.
func Check(key string, height int, msg, sig string) (int, error) {
	if !Fits(key, height) {
		return 0, api.ErrSeed
	}
	if len(sig) != Size(height) {
		return 0, api.ErrSignature
	}
	k := int(sig[0])
	leaf := finish(sig[valuesAt:pathAt], msg)
	// A first byte that is no key's number is refused here, too: it is no place in the tree.
	if tree.CheckInclusion(leaf, k, KeyCount(height), key, cut(sig[pathAt:])) != nil {
		return 0, api.ErrSignature
	}
	return k, nil
}

// Fits tells if a text can be a seed or a public key, and a number the height of a tree of keys.
func Fits(text string, height int) bool {
	return len(text) == api.HashSize && 0 <= height && height <= api.MaxHeight
}

// KeyCount is how many keys a tree has.
func KeyCount(height int) int { return 1 << height }

// Size is how many bytes a signature has.
func Size(height int) int { return pathAt + height*api.HashSize }

// leaves are the ends of all chains, a text for each key.
func leaves(seed string, height int) []string {
	all := make([]string, KeyCount(height))
	for k := range all {
		all[k] = goAlong(beginnings(seed, k), func(int) int { return topDigit })
	}
	return all
}

// beginnings gives what the chains of key k begin with.
func beginnings(seed string, k int) func(chain int) hash.Hash {
	return func(chain int) hash.Hash {
		return hash.Of(beginMark, seed, string([]byte{byte(k), byte(chain)}))
	}
}

// finish goes on from a signature's values to the ends of their chains: the key's leaf, if the values are of this message.
func finish(values, msg string) string {
	shown := digits(hash.Of(msg))
	begin := func(chain int) hash.Hash {
		var h hash.Hash
		copy(h[:], values[chain*api.HashSize:])
		return h
	}
	return goAlong(begin, func(chain int) int { return topDigit - shown[chain] })
}

// cut cuts a text into the hashes of which it is made.
func cut(text string) []string {
	hashes := make([]string, len(text)/api.HashSize)
	for i := range hashes {
		hashes[i] = text[i*api.HashSize : (i+1)*api.HashSize]
	}
	return hashes
}
