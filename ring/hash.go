// Package ring is layer 13: hashes, shards, and a ring of nodes.
package ring

import "tumbler/api"

// Hash is FNV-1a of 32 bits.
func Hash(s string) uint32 {
	h := uint32(2166136261)
	for i := range len(s) {
		h = (h ^ uint32(s[i])) * 16777619
	}
	return h
}

// Hash64 is FNV-1a of 64 bits.
func Hash64(s string) uint64 {
	h := uint64(14695981039346656037)
	for i := range len(s) {
		h = (h ^ uint64(s[i])) * 1099511628211
	}
	return h
}

// Shard is the shard of a name among so many.
func Shard(name string, n int) int {
	if n < 1 || n > api.MaxShards {
		return 0
	}
	return int(Hash(name) % uint32(n))
}
