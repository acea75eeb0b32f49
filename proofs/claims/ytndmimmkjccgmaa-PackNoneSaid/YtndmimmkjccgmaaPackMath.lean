/- Numbers and texts, one behind the other, in plain values: what a packer holds, what an opener has before it. Of no one law. -/
namespace Go.Proofs.Ytndmimmkjccgmaa.Pack

/-- A number's lowest bytes, the lowest first. -/
def lowB (v : Nat) (n : Nat) : List UInt8 := (List.range n).map fun i => UInt8.ofNat (v / 256 ^ i)
def lowS (v : Nat) (n : Nat) : ByteArray := ⟨(lowB v n).toArray⟩
theorem low_size (v n : Nat) : (lowS v n).size = n := by unfold lowS lowB; simp [ByteArray.size]
/-- What a packer holds: its bytes, and the number of the first error. -/
structure PSt where
  s : ByteArray
  e : Int
def pst0 : PSt := ⟨⟨#[]⟩, 0⟩
def sizedB (n : Int) : Bool := decide (n = 1 ∨ n = 2 ∨ n = 4 ∨ n = 8)
def PSt.put (p : PSt) (b : ByteArray) : PSt := if p.e ≠ 0 then p else if 60000 < p.s.size + b.size then ⟨p.s, 2⟩ else ⟨p.s ++ b, 0⟩
/-- Does a number go into so many bytes? -/
def goesB (v : Nat) (n : Int) : Bool := sizedB n && decide (v < 256 ^ n.toNat)
def PSt.num (p : PSt) (v : Nat) (n : Int) : PSt := if p.e ≠ 0 then p else if goesB v n = true then p.put (lowS v n.toNat) else ⟨p.s, 11⟩
def PSt.text (p : PSt) (t : ByteArray) : PSt := if p.e ≠ 0 then p else if 65535 < t.size then ⟨p.s, 2⟩ else p.put (lowS t.size 2 ++ t)
def PSt.told (p : PSt) : ByteArray := if p.e = 0 then p.s else ⟨#[]⟩
/-- What an opener has before it: a text, a place in it, whether it is spoilt. -/
structure OSt where
  s : ByteArray
  at_ : Nat
  bad : Bool
end Go.Proofs.Ytndmimmkjccgmaa.Pack
