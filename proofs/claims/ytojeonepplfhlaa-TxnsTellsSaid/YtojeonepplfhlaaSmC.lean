/- The law's transactions are small; what is turned in one makes it another. No program. -/
import Derived.Test.YtojeonepplfhlaaPkB
import Derived.Test.YtojeonepplfhlaaSmB
namespace Go.Proofs.Ytojeonepplfhlaa
open Go.RowKit

/-- How small the law's transactions are. -/
structure SmallT (t : TxD) : Prop where
  i1 : 0 < t.ins.length
  o1 : 0 < t.outs.length
  i4 : t.ins.length ≤ 4
  o4 : t.outs.length ≤ 4
  ver : t.version ≤ 4
  lck : t.lock ≤ 31
  scr : ∀ d ∈ t.ins, d.script.length ≤ 1
  wit : ∀ d ∈ t.ins, d.wit.length ≤ 2 ∧ ∀ x ∈ d.wit, x.length ≤ 1
  seq : ∀ d ∈ t.ins, 0 < d.seq
  out : ∀ d ∈ t.outs, d.script.length ≤ 34 ∧ d.value ≤ 4095
theorem txOf_small (n m : Int) : SmallT (txOf n m) := by
  obtain ⟨h1, h2, h3, h4⟩ := txOf_lens n m
  refine ⟨h1, h3, h2, h4, ?_, ?_, fun d hd => ?_, fun d hd => ?_, fun d hd => ?_, fun d hd => ?_⟩
  · show (n % 4 + 1).toNat ≤ 4
    omega
  · show (n / 4 % 2 * (n / 8 % 32)).toNat ≤ 31
    rcases (show n / 4 % 2 = 0 ∨ n / 4 % 2 = 1 by omega) with h | h <;> rw [h] <;> omega
  · obtain ⟨j, _, rfl⟩ := mem_ins hd
    exact (inOf_script m j).1
  · obtain ⟨j, _, rfl⟩ := mem_ins hd
    exact ⟨(inOf_wit m j).1, fun x hx => ((inOf_wit m j).2 x hx).1⟩
  · obtain ⟨j, _, rfl⟩ := mem_ins hd
    show 0 < (4294967295 - m / 2 ^ (8 + j) % 4).toNat
    omega
  · obtain ⟨j, rfl⟩ := mem_outs hd
    refine ⟨scriptOf_len _, ?_⟩
    show (n / 2 ^ (12 + j) % 4096).toNat ≤ 4095
    omega
/-- What lies in memory fits, and is bytes. -/
theorem Many.mem {α : Type} {k : Nat} {R : World → List Value → α → Prop} {w : World} {v : Value} {l : List α} (h : Many k R w v l) {x : α} (hx : x ∈ l) : ∃ cs, R w cs x := by
  obtain ⟨A, c, rfl, _⟩ := id h
  obtain ⟨i, hi, rfl⟩ := List.mem_iff_getElem.1 hx
  obtain ⟨_, _, cs, _, _, _, _, hr⟩ := h.at hi
  exact ⟨cs, hr⟩
theorem TxR.fit {w : World} {v : Value} {t : TxD} (h : TxR w v t) : TxFit t := by
  obtain ⟨iv, ov, rfl, hv, hk, hi, ho⟩ := h
  refine ⟨hv, hk, fun d hd => ?_, fun d hd => ?_⟩
  · obtain ⟨cs, sv, wv, _, hf, _⟩ := hi.mem hd
    exact hf
  · obtain ⟨cs, sv, _, hf, _⟩ := ho.mem hd
    exact hf
theorem TxR.bys {w : World} {v : Value} {t : TxD} (h : TxR w v t) : TxBys t := by
  obtain ⟨iv, ov, rfl, hv, hk, hi, ho⟩ := h
  refine ⟨fun d hd => ?_, fun d hd => ?_⟩
  · obtain ⟨cs, sv, wv, _, hf, h1, h2⟩ := hi.mem hd
    refine ⟨hf.pbys, h1.2.1, fun x hx => ?_⟩
    obtain ⟨cs, s, _, h3⟩ := h2.mem hx
    exact h3.2.1
  · obtain ⟨cs, sv, _, hf, h1⟩ := ho.mem hd
    exact h1.2.1
end Go.Proofs.Ytojeonepplfhlaa
