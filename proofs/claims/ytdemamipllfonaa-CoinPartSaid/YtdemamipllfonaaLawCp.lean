/- A transaction of which one coin was taken is not unmade: for every three ints the law CoinPart returns true and leaves its arguments as they were. No further condition. -/
import Derived.Test.YtdemamipllfonaaCoR
import Derived.Test.YtdemamipllfonaaAwK
import Derived.Test.YtdemamipllfonaaClose
import Derived.Deep.DeepCutAuto
namespace Go.Proofs.Ytdemamipllfonaa.lawCp
open Go.ChangeShapes Go.WideShapes Go.ChangeAt Go.RowKit Go.Maps Go.Sort

theorem at_index (k : Int) (n : Nat) (h1 : 1 ≤ n) : ∃ K : Nat, K < n ∧ (k % 256).tmod (n : Int) = K :=
  ⟨(k % 256).toNat % n, Nat.mod_lt _ h1, by
    rw [Int.tmod_eq_emod_of_nonneg (by omega)]
    have : (k % 256) = (((k % 256).toNat : Nat) : Int) := by omega
    rw [this]
    rfl⟩

theorem wrap_small9 (D : Nat) (h : D ≤ 100) : IntKind.wrap .i64 (D : Int) = (D : Int) := by
  have h1 : (D : Int) % 2 ^ IntKind.i64.bits = D := Int.emod_eq_of_lt (by omega) (by show (D : Int) < 18446744073709551616; omega)
  have h2 : ¬ ((D : Int) ≥ 2 ^ (IntKind.i64.bits - 1)) := by show ¬ ((D : Int) ≥ 9223372036854775808); omega
  unfold IntKind.wrap
  simp only [h1, h2, decide_false, Bool.and_false]
  rfl

set_option maxRecDepth 10000000 in
set_option maxHeartbeats 16000000 in
theorem walk (n m k : Int) (w : World) (hn : -9223372036854775808 ≤ n ∧ n ≤ 9223372036854775807) (hm : -9223372036854775808 ≤ m ∧ m ≤ 9223372036854775807) : Calls Try.prog 4 #[.int .i64 n, .int .i64 m, .int .i64 k] w (YesPost w) := by
  have HNEW := Kp.mk (aw_new w)
  have HLAW : Kp (∀ W bs bm N M xs ts, AwS w W bs bm N M xs ts → _) := ⟨fun W bs bm N M xs ts h => aw_law h n m hn hm⟩
  have HT : Kp ((1 ≤ (txOf n m).outs.length ∧ (txOf n m).outs.length ≤ 4) ∧ TxBys (txOf n m)) := ⟨⟨by have := txOf_lens n m; omega, by have := txOf_lens n m; omega⟩, txOf_bys n m⟩
  have hK : bits BinOp.and IntKind.i64 k 255 = k % 256 := and_mask k 8 (by omega)
  obtain ⟨K, hK1, hK2⟩ := at_index k _ HT.out.1.1
  have h1n : ¬ (((txOf n m).outs.length : Int) = 0) := by have := HT.out.1.1; omega
  have HIT : Kp ((Try.prog.info? 30).map (·.size) = some 4) := ⟨by kernel_rfl⟩
  clear hn hm
  generalize txOf n m = T at *
  go_enter Try.func4, Try.ntmps4
  go_wp2_with fail
  refine HNEW.out.mono ?_
  rintro e w1 ⟨rfl, h1⟩
  obtain ⟨bs, hbs⟩ : ∃ b, w.heap.size + 1 = b := ⟨_, rfl⟩
  rw [hbs] at h1 ⊢
  obtain ⟨bm, hbm⟩ : ∃ b, w.heap.size = b := ⟨_, rfl⟩
  have H1 : Kp (AwS w w1 bs bm 0 [] [] []) := ⟨hbm ▸ h1⟩
  clear h1 hbs hbm HNEW
  have HA := Kp.mk (HLAW.out _ _ _ _ _ _ _ H1.out)
  go_wp2_with fail
  refine HA.out.mono ?_
  rintro e w2 ⟨Ai, ci, Ao, co, rfl, h⟩
  have H20 := Kp.mk h
  clear h HA HLAW
  go_upto_region 3 with fail
  have H2 := Kp.mk (H20.out.alloc 30 #[.int .u32 T.version, .slice Ai T.ins.length ci, .slice Ao T.outs.length co, .int .u32 T.lock])
  obtain ⟨GT, hGT⟩ : ∃ G, w2.heap.size = G := ⟨_, rfl⟩
  obtain ⟨W2, hW2⟩ : ∃ W, w2.alloc (.cells #[.int .u32 T.version, .slice Ai T.ins.length ci, .slice Ao T.outs.length co, .int .u32 T.lock] 30) = W := ⟨_, rfl⟩
  rw [hGT, hW2] at H2
  rw [hGT, hW2]
  clear hGT hW2 H20 H1
  have hl1 := HT.out.1.2
  have HA : Kp (Calls Try.prog 9 #[.pointer (some ⟨bs, 0, none⟩), .agg #[.int .u32 T.version, .slice Ai T.ins.length ci, .slice Ao T.outs.length co, .int .u32 T.lock], .int .i64 5, .int .i64 6, .bool true] W2 fun e w' => e = .returned (.bool true) ∧ AwS w w' bs bm (0 + T.outs.length) (Coins.make [] T 5 6 true) [(GT, 30, #[.int .u32 T.version, .slice Ai T.ins.length ci, .slice Ao T.outs.length co, .int .u32 T.lock])] [(.agg #[.int .u32 T.version, .slice Ai T.ins.length ci, .slice Ao T.outs.length co, .int .u32 T.lock], T)]) := ⟨by have := aw_make H2.out _ T (List.mem_singleton.2 rfl) HT.out.2 5 6 true (by omega) (by omega); rw [hasAny_nil] at this; exact this⟩
  clear hl1
  have t0 := (H2.out.bxs (GT, 30, #[.int .u32 T.version, .slice Ai T.ins.length ci, .slice Ao T.outs.length co, .int .u32 T.lock]) (by simp)).cell 0
  have t1 := (H2.out.bxs (GT, 30, #[.int .u32 T.version, .slice Ai T.ins.length ci, .slice Ao T.outs.length co, .int .u32 T.lock]) (by simp)).cell 1
  have t2 := (H2.out.bxs (GT, 30, #[.int .u32 T.version, .slice Ai T.ins.length ci, .slice Ao T.outs.length co, .int .u32 T.lock]) (by simp)).cell 2
  have t3 := (H2.out.bxs (GT, 30, #[.int .u32 T.version, .slice Ai T.ins.length ci, .slice Ao T.outs.length co, .int .u32 T.lock]) (by simp)).cell 3
  go_wp2_with fail
  refine HA.out.mono ?_
  rintro e w3 ⟨rfl, h⟩
  have H3 := Kp.mk h
  clear h HA t0 t1 t2 t3 H2
  have HN5 : Kp (T.outs.length ≤ 100000) := ⟨by have := HT.out.1.2; omega⟩
  have HA : Kp (Calls Try.prog 8 #[.pointer (some ⟨bs, 0, none⟩)] w3 fun e w' => ∃ g c l, e = .returned (.slice (some ⟨g, 0, none⟩) T.outs.length c) ∧ l.length = T.outs.length ∧ (l.map (·.1)).Perm ((Coins.make [] T 5 6 true).map (·.1)) ∧ PtsO w' w3.heap.size (.slice (some ⟨g, 0, none⟩) T.outs.length c) l ∧ AwS w w' bs bm (0 + T.outs.length) (Coins.make [] T 5 6 true) [(GT, 30, #[.int .u32 T.version, .slice Ai T.ins.length ci, .slice Ao T.outs.length co, .int .u32 T.lock])] [(.agg #[.int .u32 T.version, .slice Ai T.ins.length ci, .slice Ao T.outs.length co, .int .u32 T.lock], T)]) := ⟨(aw_points H3.out (by have := HT.out.1.2; omega)).mono fun e w' h => by
    rw [part_len HN5.out] at h
    obtain ⟨A, c, l, h1, h2, h3, _, h5, h6⟩ := h
    obtain ⟨g, rfl⟩ := pts_some h5 HT.out.1.1 h2
    exact ⟨g, c, l, h1, h2, h3, h5, h6⟩⟩
  go_wp2_with fail
  refine HA.out.mono ?_
  rintro e w4 ⟨g, c, l, rfl, hll, hpm, hpo, h⟩
  have H4 := Kp.mk h
  have hkl : K < l.length := by omega
  obtain ⟨j, hj, hq⟩ := part_point HN5.out hpm hkl
  have HR := Kp.mk (pts_range hpo hkl)
  have HJ := Kp.mk (And.intro hj hq)
  have HF := Kp.mk l[K].2
  have HEL := Kp.mk (encP_len l[K])
  have HEA := Kp.mk (all_oneCell_toArray (encP_one l[K]))
  have hqe : encP l[K] = ptC l[K].1.id l[K].1.vout := rfl
  rw [hqe] at HR HEL HEA
  generalize l[K].1 = q at *
  obtain ⟨cs, hcs⟩ : ∃ cs, ptC q.id q.vout = cs := ⟨_, rfl⟩
  rw [hcs] at HR HEL HEA
  have HCS := Kp.mk hcs
  have HSZ : Kp ((Try.prog.info? 41).map (·.size) = some cs.length ∧ (Try.prog.info? 41).map (·.size) = some cs.toArray.size ∧ cs.toArray.size = 33) := ⟨⟨by rw [HEL.out]; exact sizePt, by rw [List.size_toArray, HEL.out]; exact sizePt, by rw [List.size_toArray, HEL.out]⟩⟩
  clear h HA hll hpm hpo hkl hj hq hqe hcs H3
  have t0 := (H4.out.bxs (GT, 30, #[.int .u32 T.version, .slice Ai T.ins.length ci, .slice Ao T.outs.length co, .int .u32 T.lock]) (by simp)).cell 0
  have t1 := (H4.out.bxs (GT, 30, #[.int .u32 T.version, .slice Ai T.ins.length ci, .slice Ao T.outs.length co, .int .u32 T.lock]) (by simp)).cell 1
  have t2 := (H4.out.bxs (GT, 30, #[.int .u32 T.version, .slice Ai T.ins.length ci, .slice Ao T.outs.length co, .int .u32 T.lock]) (by simp)).cell 2
  have t3 := (H4.out.bxs (GT, 30, #[.int .u32 T.version, .slice Ai T.ins.length ci, .slice Ao T.outs.length co, .int .u32 T.lock]) (by simp)).cell 3
  go_upto_region 8 with fail
  clear t0 t1 t2 t3
  go_upto_region 9 with (first | (refine wpList_load_mid rfl 41 (.tmp 42) rfl g (K * 33) rfl cs _ HR.out Try.underlying41 rfl HSZ.out.1 ?_) | (refine wpList_store_fresh rfl 41 (.tmp 10) (.tmp 43) rfl _ cs.toArray w4.heap.size rfl rfl rfl HSZ.out.2.1 (by rw [HSZ.out.2.2]; rfl) HEA.out ?_))
  have H5 := Kp.mk (H4.out.alloc 41 cs.toArray)
  obtain ⟨GP, hGP⟩ : ∃ G, w4.heap.size = G := ⟨_, rfl⟩
  obtain ⟨W5, hW5⟩ : ∃ W, w4.alloc (.cells cs.toArray 41) = W := ⟨_, rfl⟩
  rw [hGP, hW5] at H5
  rw [hGP, hW5]
  clear hGP hW5 H4 HR
  have HRP : Kp (Box W5 GP 41 cs.toArray) := ⟨H5.out.bxs (GP, 41, cs.toArray) (by simp)⟩
  have hh : (Coins.make [] T 5 6 true).has q = true := by rw [HJ.out.2]; exact make_has 5 6 true (hasAny_nil T) HN5.out HJ.out.1
  have hg : (Coins.make [] T 5 6 true).get q = coinAt T 5 6 true j := by rw [HJ.out.2]; exact make_get 5 6 true (hasAny_nil T) HN5.out HJ.out.1
  obtain ⟨V, hV⟩ : ∃ V : Int, ((T.outs.getD j default).value : Int) = V := ⟨_, rfl⟩
  have HC : Kp ((coinCells (coinAt T 5 6 true j)).toArray = #[.int .u64 V, .int .i64 5, .int .i64 6, .bool true]) := ⟨by rw [← hV]; rfl⟩
  obtain ⟨D, hD, hD1⟩ : ∃ D : Nat, ((Coins.make [] T 5 6 true).del q).length = D ∧ T.outs.length = D + 1 := ⟨_, rfl, by have := length_del (p := q) H5.out.nodup; rw [hh, part_len HN5.out] at this; simpa using this.symm⟩
  have HD := Kp.mk hD
  have HD1 := Kp.mk hD1
  have HA : Kp (Calls Try.prog 12 #[.pointer (some ⟨bs, 0, none⟩), .agg cs.toArray] W5 fun e w' => e = .returned (.tuple #[.agg #[.int .u64 V, .int .i64 5, .int .i64 6, .bool true], .bool true]) ∧ AwS w w' bs bm (0 + T.outs.length) ((Coins.make [] T 5 6 true).del q) [(GP, 41, cs.toArray), (GT, 30, #[.int .u32 T.version, .slice Ai T.ins.length ci, .slice Ao T.outs.length co, .int .u32 T.lock])] [(.agg #[.int .u32 T.version, .slice Ai T.ins.length ci, .slice Ao T.outs.length co, .int .u32 T.lock], T)]) := ⟨by have := aw_take H5.out q HF.out; rw [hh, hg, HC.out, HCS.out] at this; exact this⟩
  clear hh hg hV hD hD1 H5
  go_wp2_with (refine wpList_load_row rfl 41 (.tmp 10) rfl GP rfl 41 cs.toArray (0, 0) _ HRP.out Try.underlying41 rfl HSZ.out.2.1 ?_)
  refine HA.out.mono ?_
  rintro e w6 ⟨rfl, h⟩
  have H60 := Kp.mk h
  clear h HA HRP
  go_upto_region 10 with fail
  have H6 := Kp.mk (H60.out.alloc 44 #[.int .u64 V, .int .i64 5, .int .i64 6, .bool true])
  obtain ⟨GC, hGC⟩ : ∃ G, w6.heap.size = G := ⟨_, rfl⟩
  obtain ⟨W6, hW6⟩ : ∃ W, w6.alloc (.cells #[.int .u64 V, .int .i64 5, .int .i64 6, .bool true] 44) = W := ⟨_, rfl⟩
  rw [hGC, hW6] at H6
  rw [hGC, hW6]
  clear hGC hW6 H60
  have HA : Kp (Calls Try.prog 10 #[.pointer (some ⟨bs, 0, none⟩), .agg #[.int .u32 T.version, .slice Ai T.ins.length ci, .slice Ao T.outs.length co, .int .u32 T.lock]] W6 fun e w' => e = .returned (.bool false) ∧ AwS w w' bs bm (0 + T.outs.length) ((Coins.make [] T 5 6 true).del q) [(GC, 44, #[.int .u64 V, .int .i64 5, .int .i64 6, .bool true]), (GP, 41, cs.toArray), (GT, 30, #[.int .u32 T.version, .slice Ai T.ins.length ci, .slice Ao T.outs.length co, .int .u32 T.lock])] [(.agg #[.int .u32 T.version, .slice Ai T.ins.length ci, .slice Ao T.outs.length co, .int .u32 T.lock], T)]) := ⟨by have := aw_unmake H6.out _ T (List.mem_singleton.2 rfl) HT.out.2 (by have := HT.out.1.2; omega); rw [lacksAny_of (M := ((Coins.make [] T 5 6 true).del q)) HJ.out.1 (by rw [← HJ.out.2]; exact Coins.has_del_same)] at this; exact this⟩
  have t0 := (H6.out.bxs (GT, 30, #[.int .u32 T.version, .slice Ai T.ins.length ci, .slice Ao T.outs.length co, .int .u32 T.lock]) (by simp)).cell 0
  have t1 := (H6.out.bxs (GT, 30, #[.int .u32 T.version, .slice Ai T.ins.length ci, .slice Ao T.outs.length co, .int .u32 T.lock]) (by simp)).cell 1
  have t2 := (H6.out.bxs (GT, 30, #[.int .u32 T.version, .slice Ai T.ins.length ci, .slice Ao T.outs.length co, .int .u32 T.lock]) (by simp)).cell 2
  have t3 := (H6.out.bxs (GT, 30, #[.int .u32 T.version, .slice Ai T.ins.length ci, .slice Ao T.outs.length co, .int .u32 T.lock]) (by simp)).cell 3
  go_wp2_with fail
  refine HA.out.mono ?_
  rintro e w7 ⟨rfl, h⟩
  have H7 := Kp.mk h
  clear h HA t0 t1 t2 t3 H6
  have HA : Kp (Calls Try.prog 8 #[.pointer (some ⟨bs, 0, none⟩)] w7 fun e w' => ∃ A c, e = .returned (.slice A D c) ∧ AwS w w' bs bm (0 + T.outs.length) ((Coins.make [] T 5 6 true).del q) [(GC, 44, #[.int .u64 V, .int .i64 5, .int .i64 6, .bool true]), (GP, 41, cs.toArray), (GT, 30, #[.int .u32 T.version, .slice Ai T.ins.length ci, .slice Ao T.outs.length co, .int .u32 T.lock])] [(.agg #[.int .u32 T.version, .slice Ai T.ins.length ci, .slice Ao T.outs.length co, .int .u32 T.lock], T)]) := ⟨(aw_points H7.out (by have := HT.out.1.2; omega)).mono fun e w' h => by
    rw [HD.out] at h
    obtain ⟨A, c, l, h1, _, _, _, _, h6⟩ := h
    exact ⟨A, c, h1, h6⟩⟩
  go_wp2_with fail
  refine HA.out.mono ?_
  rintro e w8 ⟨A8, c8, rfl, h⟩
  have H8 := Kp.mk h
  clear h HA H7
  have HA : Kp (Calls Try.prog 13 #[.pointer (some ⟨bs, 0, none⟩), .agg cs.toArray, .agg #[.int .u64 V, .int .i64 5, .int .i64 6, .bool true]] w8 fun e w' => e = .returned (.bool true) ∧ AwS w w' bs bm ((0 + T.outs.length) + 1) (((Coins.make [] T 5 6 true).del q).put q (coinAt T 5 6 true j)) [(GC, 44, #[.int .u64 V, .int .i64 5, .int .i64 6, .bool true]), (GP, 41, cs.toArray), (GT, 30, #[.int .u32 T.version, .slice Ai T.ins.length ci, .slice Ao T.outs.length co, .int .u32 T.lock])] [(.agg #[.int .u32 T.version, .slice Ai T.ins.length ci, .slice Ao T.outs.length co, .int .u32 T.lock], T)]) := ⟨by have := aw_put H8.out q (coinAt T 5 6 true j) HF.out (by have := HT.out.1.2; omega); rw [Coins.has_del_same, HC.out, HCS.out] at this; exact this⟩
  have HRP : Kp (Box w8 GP 41 cs.toArray) := ⟨H8.out.bxs (GP, 41, cs.toArray) (by simp)⟩
  have d0 := (H8.out.bxs (GC, 44, #[.int .u64 V, .int .i64 5, .int .i64 6, .bool true]) (by simp)).cell 0
  have d1 := (H8.out.bxs (GC, 44, #[.int .u64 V, .int .i64 5, .int .i64 6, .bool true]) (by simp)).cell 1
  have d2 := (H8.out.bxs (GC, 44, #[.int .u64 V, .int .i64 5, .int .i64 6, .bool true]) (by simp)).cell 2
  have d3 := (H8.out.bxs (GC, 44, #[.int .u64 V, .int .i64 5, .int .i64 6, .bool true]) (by simp)).cell 3
  go_wp2_with (refine wpList_load_row rfl 41 (.tmp 10) rfl GP rfl 41 cs.toArray (0, 0) _ HRP.out Try.underlying41 rfl HSZ.out.2.1 ?_)
  refine HA.out.mono ?_
  rintro e w9 ⟨rfl, h⟩
  have H9 := Kp.mk h
  clear h HA d0 d1 d2 d3 HRP H8
  go_upto_region 13 with fail
  have HA : Kp (Calls Try.prog 10 #[.pointer (some ⟨bs, 0, none⟩), .agg #[.int .u32 T.version, .slice Ai T.ins.length ci, .slice Ao T.outs.length co, .int .u32 T.lock]] w9 fun e w' => e = .returned (.bool true) ∧ AwS w w' bs bm ((0 + T.outs.length) + 1) [] [(GC, 44, #[.int .u64 V, .int .i64 5, .int .i64 6, .bool true]), (GP, 41, cs.toArray), (GT, 30, #[.int .u32 T.version, .slice Ai T.ins.length ci, .slice Ao T.outs.length co, .int .u32 T.lock])] [(.agg #[.int .u32 T.version, .slice Ai T.ins.length ci, .slice Ao T.outs.length co, .int .u32 T.lock], T)]) := ⟨by have := aw_unmake H9.out _ T (List.mem_singleton.2 rfl) HT.out.2 (by have := HT.out.1.2; omega); rw [part_lacks HN5.out q, part_unmake HN5.out q _ HJ.out.1 HJ.out.2] at this; exact this⟩
  have hsub : IntKind.wrap .i64 ((T.outs.length : Int) - 1) = (D : Int) := by have := HD1.out; have := HT.out.1.2; rw [show ((T.outs.length : Int) - 1) = (D : Int) by omega]; exact wrap_small9 D (by omega)
  have d0 := (H9.out.bxs (GC, 44, #[.int .u64 V, .int .i64 5, .int .i64 6, .bool true]) (by simp)).cell 0
  have d1 := (H9.out.bxs (GC, 44, #[.int .u64 V, .int .i64 5, .int .i64 6, .bool true]) (by simp)).cell 1
  have d2 := (H9.out.bxs (GC, 44, #[.int .u64 V, .int .i64 5, .int .i64 6, .bool true]) (by simp)).cell 2
  have d3 := (H9.out.bxs (GC, 44, #[.int .u64 V, .int .i64 5, .int .i64 6, .bool true]) (by simp)).cell 3
  have t0 := (H9.out.bxs (GT, 30, #[.int .u32 T.version, .slice Ai T.ins.length ci, .slice Ao T.outs.length co, .int .u32 T.lock]) (by simp)).cell 0
  have t1 := (H9.out.bxs (GT, 30, #[.int .u32 T.version, .slice Ai T.ins.length ci, .slice Ao T.outs.length co, .int .u32 T.lock]) (by simp)).cell 1
  have t2 := (H9.out.bxs (GT, 30, #[.int .u32 T.version, .slice Ai T.ins.length ci, .slice Ao T.outs.length co, .int .u32 T.lock]) (by simp)).cell 2
  have t3 := (H9.out.bxs (GT, 30, #[.int .u32 T.version, .slice Ai T.ins.length ci, .slice Ao T.outs.length co, .int .u32 T.lock]) (by simp)).cell 3
  go_wp2_with fail
  refine HA.out.mono ?_
  rintro e w10 ⟨rfl, h⟩
  have H10 := Kp.mk h
  clear h HA d0 d1 d2 d3 t0 t1 t2 t3 H9
  have HA : Kp (Calls Try.prog 8 #[.pointer (some ⟨bs, 0, none⟩)] w10 fun e w' => ∃ A c, e = .returned (.slice A 0 c) ∧ AwS w w' bs bm ((0 + T.outs.length) + 1) [] [(GC, 44, #[.int .u64 V, .int .i64 5, .int .i64 6, .bool true]), (GP, 41, cs.toArray), (GT, 30, #[.int .u32 T.version, .slice Ai T.ins.length ci, .slice Ao T.outs.length co, .int .u32 T.lock])] [(.agg #[.int .u32 T.version, .slice Ai T.ins.length ci, .slice Ao T.outs.length co, .int .u32 T.lock], T)]) := ⟨(aw_points H10.out (by have := HT.out.1.2; omega)).mono fun e w' h => by
    obtain ⟨A, c, l, h1, _, _, _, _, h6⟩ := h
    exact ⟨A, c, h1, h6⟩⟩
  go_wp2_with fail
  refine HA.out.mono ?_
  rintro e w11 ⟨A11, c11, rfl, h⟩
  have H11 := Kp.mk h
  clear h HA H10
  have HA := Kp.mk (awake9_any w11)
  go_wp2_with fail
  refine HA.out.mono ?_
  rintro e w12 ⟨rfl, hb⟩
  have HB := Kp.mk (H11.out.low.trans (hb.mono H11.out.low.size))
  clear hb HA H11
  go_wp2
  go_ret
  exact ⟨rfl, HB.out⟩

set_option maxRecDepth 100000 in
theorem lifted (os : Os) (started : os.Started) (H : Type) (enc : TypeId × Value → H) :
    ReturnsInHanded {} Try.checked os 4 .any (Rows.coinPartSpec.pre6 enc Try.prog Try.f4 Rows.coinPartRow.domain false) (Rows.coinPartSpec.post enc Try.prog Try.f4 false true false false) := by
  refine returnsInHanded_of_change (C := Try.checked) ownKnobNone started (by kernel_rfl) Try.func4
    (ChangeSpec.witness6 (enc := enc) (C := Try.checked) false ⟨#[], #[.int .i64 0, .int .i64 0, .int .i64 0], []⟩ 8 (by kernel_rfl) (by kernel_rfl) (by kernel_rfl) (by kernel_rfl)) ?_
  intro W base args ds gs before hval0 hW _ _
  have hval : ∀ (j : Nat) t v, Try.f4.params[j]? = some t → args[j]? = some v → Value.okWide Try.prog W .any base t v := hval0
  have hW' := hW
  obtain ⟨p, q, hA0, hV, rfl, _, _⟩ := hW
  have hA : DataW.TrodAll enc Try.prog W 0 (fun _ => true) true Try.f4.params.toList args.toList ds p := hA0
  rw [Try.params4] at hA hval
  obtain ⟨v0, vs0, d0, ds0, p0, q0, hargs, rfl, rfl, h0, r0⟩ := trodAll_cons hA
  obtain ⟨v1, vs1, d1, ds1, p1, q1, rfl, rfl, rfl, h1, r1⟩ := trodAll_cons r0
  obtain ⟨v2, vs2, d2, ds2, p2, q2, rfl, rfl, rfl, h2, r2⟩ := trodAll_cons r1
  obtain ⟨rfl, rfl, rfl⟩ := trodAll_nil r2
  obtain rfl : args = #[v0, v1, v2] := by cases args; simp_all
  obtain ⟨rfl, rfl⟩ := trodVars_none hV
  obtain ⟨a0, rfl, rfl, rfl, w0⟩ := open_int Try.underlying3 (hval 0 3 v0 rfl rfl) h0
  have b0 := bd_i64 w0
  obtain ⟨a1, rfl, rfl, rfl, w1⟩ := open_int Try.underlying3 (hval 1 3 v1 rfl rfl) h1
  have b1 := bd_i64 w1
  obtain ⟨a2, rfl, rfl, rfl, w2⟩ := open_int Try.underlying3 (hval 2 3 v2 rfl rfl) h2
  have b2 := bd_i64 w2
  clear hA0 hval0
  refine (walk a0 a1 a2 _ b0 b1).mono fun e W' ⟨he, hb⟩ => ?_
  subst he
  exact ⟨_, rfl, law_post hW' rfl rfl (by kernel_rfl) rfl hb⟩

set_option maxRecDepth 100000 in
theorem over : Rows.coinPartRow.holds Try.pinned (OpenSpec.ofChange Rows.coinPartSpec) :=
  OpenClaim.holds_of_wide 4 Try.f4 rfl rfl rfl rfl rfl rfl rfl ⟨rfl, rfl, rfl, rfl, rfl⟩ rfl rfl rfl rfl rfl (by kernel_rfl) Try.func4 (by kernel_rfl)
    (of_decide_eq_true (by kernel_rfl)) (by unfold Func.isWrapper; first | (rw [if_pos (by decide +kernel)]; kernel_rfl) | (rw [if_neg (by decide +kernel)]; exact ⟨rfl, rfl⟩))
    (fun os started H enc _ => lifted os started H enc)

/-- The statement. -/
theorem proved : Rows.CoinPartSaid :=
  over
end Go.Proofs.Ytdemamipllfonaa.lawCp
