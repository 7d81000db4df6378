/- Package coin: slices.IndexFunc and slices.ContainsFunc at points, whatever is asked of each. -/
import Derived.Test.YtdemamipllfonaaCoL
namespace Go.Proofs.Ytdemamipllfonaa
open Go.RowKit Go.Maps Go.Sort

theorem pts_range {w : World} {B g c n k : Nat} {l : List PtF} (h : PtsO w B (.slice (some ⟨g, 0, none⟩) n c) l) (hk : k < l.length) : w.rangeAt g (k * 33) (encP l[k]) := by
  obtain ⟨b, off, cs, hA, _, _, hr, hR⟩ := (OwnMany.many (RR := fun _ => PtE) (pts_many h) fun _ _ h => h).at hk
  injection hA with h1
  injection h1 with h1 h4
  subst h1
  subst h4
  rw [Nat.zero_add] at hr
  have hR' : cs = encP l[k] := hR
  rw [← hR']
  exact hr
theorem PtsO.below {w w' : World} {B : Nat} {v : Value} {l : List PtF} (h : PtsO w B v l) (hb : Below w.heap.size w w') : PtsO w' B v l := World.ownsRow.kept h (grown_of_below hb) (by cases v.ownBlock <;> simp)
/-- Where the first is that is so; -1. -/
def firstAt (p : PtF → Bool) (l : List PtF) : Int := match l.findIdx? p with | some i => i | none => -1
theorem step9b {k n : Nat} (h : k < n) {p : Nat → Prop} (hp : p (k + 1)) :
    (∃ k1, k1 ≤ n ∧ Value.int IntKind.i64 ((k : Int) + 1) = Value.int IntKind.i64 ((k1 : Nat) : Int) ∧ p k1) ∧ n - (intOf (Value.int IntKind.i64 ((k : Int) + 1))).toNat < n - (intOf (Value.int IntKind.i64 ((k : Nat) : Int))).toNat := by
  have e : ((k : Int) + 1) = ((k + 1 : Nat) : Int) := by omega
  rw [e]
  exact ⟨⟨k + 1, by omega, rfl, hp⟩, by simp [intOf]; omega⟩
set_option maxRecDepth 100000 in
set_option maxHeartbeats 4000000 in
theorem index_any (w : World) (B : Nat) (v : Value) (l : List PtF) (hp : PtsO w B v l) (f : Nat) (sv : Value) (pred : PtF → Bool) (hlen : l.length ≤ 1000000) (eg : ∀ args w, (callFunc f args).run Try.prog w = .ok (.enter f args) w)
    (hC : ∀ W, Below w.heap.size w W → ∀ p, Calls Try.prog f #[sv, .agg (encP p).toArray] W (BoolP (pred p) W)) :
    Calls Try.prog 32 #[v, .func (.func f) #[sv] #[]] w fun e w' => e = .returned (.int .i64 (firstAt pred l)) ∧ Below w.heap.size w w' := by
  rcases id hp.2 with ⟨rfl, h0⟩ | ⟨g, cap, cur, rfl, hg, _⟩
  · obtain rfl := List.eq_nil_of_length_eq_zero h0
    clear hC hp
    go_enter Try.func32, Try.ntmps32
    go_wp2
    go_loopw [8] (fun i wr => i = .int .i64 0 ∧ Kp (Below w.heap.size w wr)) (fun _ _ => 0)
    case atStart => exact ⟨rfl, ⟨Below.refl _ _⟩⟩
    case round =>
      obtain ⟨rfl, H⟩ := hrel
      go_wp2
      go_ret
      exact ⟨by simp [firstAt], H.out⟩
  · have HC := Kp.mk hC
    have HP := Kp.mk hp
    obtain ⟨N, hN⟩ : ∃ N, l.length = N := ⟨_, rfl⟩
    have HN := Kp.mk hN
    rw [hN] at HP hlen ⊢
    clear hC hp hN
    go_enter Try.func32, Try.ntmps32
    go_wp2
    go_loopw [8] (fun i wr => ∃ k : Nat, k ≤ N ∧ i = .int .i64 k ∧ Kp (Below w.heap.size w wr ∧ ∀ j, (h : j < l.length) → j < k → pred l[j] = false)) (fun i _ => N - (intOf i).toNat)
    case atStart => exact ⟨0, by omega, rfl, ⟨Below.refl _ _, fun j _ h => absurd h (by omega)⟩⟩
    case round =>
      obtain ⟨k, hk, rfl, H⟩ := hrel
      by_cases hlt : k < N
      · have hkk : (k : Int) < (N : Int) := by omega
        have hkl : k < l.length := by have := HN.out; omega
        have HK := Kp.mk hlt
        have hR := pts_range (PtsO.below HP.out H.out.1) hkl
        have HR := Kp.mk hR
        have HSZ : Kp ((Try.prog.info? 41).map (·.size) = some (encP l[k]).length) := ⟨by rw [encP_len]; exact sizePt⟩
        have HCk := Kp.mk (HC.out wr H.out.1 l[k])
        have HPR : Kp (∀ b, pred l[k] = b → b = false → ∀ j, (h : j < l.length) → j < k + 1 → pred l[j] = false) := ⟨fun b e eb j hj hjk => by
          by_cases h : j = k
          · subst h; rw [e, eb]
          · exact H.out.2 j hj (by omega)⟩
        have HF : Kp (∀ b, pred l[k] = b → b = true → firstAt pred l = (k : Int)) := ⟨fun b e eb => by
          unfold firstAt
          have : l.findIdx? pred = some k := by
            rw [List.findIdx?_eq_some_iff_getElem]
            exact ⟨hkl, by rw [e, eb], fun j hj => by rw [H.out.2 j (by omega) hj]; simp⟩
          rw [this]⟩
        clear hR hk hlt
        generalize pred l[k] = bb at *
        generalize encP l[k] = C at *
        cases bb with
        | true =>
          go_wp2_with (first | (refine wpList_load_mid rfl 41 (.tmp 14) rfl g (k * 33) rfl C _ HR.out Try.underlying41 rfl HSZ.out ?_) | (go_at_fn f; refine HCk.out.mono ?_; rintro e w2 ⟨rfl, hb2⟩; have HB2 := Kp.mk hb2; clear hb2))
          go_ret
          exact ⟨by rw [HF.out _ rfl rfl]; rfl, H.out.1.trans (HB2.out.mono H.out.1.size)⟩
        | false =>
          go_wp2_with (first | (refine wpList_load_mid rfl 41 (.tmp 14) rfl g (k * 33) rfl C _ HR.out Try.underlying41 rfl HSZ.out ?_) | (go_at_fn f; refine HCk.out.mono ?_; rintro e w2 ⟨rfl, hb2⟩; have HB2 := Kp.mk hb2; clear hb2))
          exact step9b HK.out ⟨H.out.1.trans (HB2.out.mono H.out.1.size), HPR.out _ rfl rfl⟩
      · obtain rfl : k = N := by omega
        go_wp2
        go_ret
        have hf : firstAt pred l = -1 := by
          unfold firstAt
          rw [List.findIdx?_eq_none_iff.2 fun x hx => by
            obtain ⟨j, hj, rfl⟩ := List.getElem_of_mem hx
            exact H.out.2 j hj (by have := HN.out; omega)]
        exact ⟨by rw [hf]; rfl, H.out.1⟩

theorem firstAt_any (p : PtF → Bool) (l : List PtF) : decide (0 ≤ firstAt p l) = l.any p := by
  unfold firstAt
  cases h : l.findIdx? p with
  | none =>
    rw [List.findIdx?_eq_none_iff] at h
    have : l.any p = false := List.any_eq_false.2 fun x hx => by simp [h x hx]
    rw [this]; rfl
  | some i =>
    rw [List.findIdx?_eq_some_iff_getElem] at h
    obtain ⟨hi, hp, _⟩ := h
    have : l.any p = true := List.any_eq_true.2 ⟨l[i], List.getElem_mem hi, hp⟩
    rw [this]
    simp
set_option maxRecDepth 100000 in
set_option maxHeartbeats 1000000 in
theorem contains_any (w : World) (B : Nat) (v : Value) (l : List PtF) (hp : PtsO w B v l) (f : Nat) (sv : Value) (pred : PtF → Bool) (hlen : l.length ≤ 1000000) (eg : ∀ args w, (callFunc f args).run Try.prog w = .ok (.enter f args) w)
    (hC : ∀ W, Below w.heap.size w W → ∀ p, Calls Try.prog f #[sv, .agg (encP p).toArray] W (BoolP (pred p) W)) :
    Calls Try.prog 21 #[v, .func (.func f) #[sv] #[]] w (BoolP (l.any pred) w) := by
  have HI := Kp.mk (index_any w B v l hp f sv pred hlen eg hC)
  have HA := Kp.mk (firstAt_any pred l)
  clear hC hp eg
  generalize firstAt pred l = r at *
  generalize l.any pred = bb at *
  go_enter Try.func21, Try.ntmps21
  go_wp2_with (first | (go_at_call 32; refine HI.out.mono ?_; rintro e w2 ⟨rfl, hb2⟩; have HB2 := Kp.mk hb2; clear hb2))
  go_ret
  exact ⟨by rw [← HA.out]; rfl, HB2.out⟩
end Go.Proofs.Ytdemamipllfonaa
