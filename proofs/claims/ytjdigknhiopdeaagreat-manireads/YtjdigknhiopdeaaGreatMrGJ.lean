/- ManiReads of the statements of layer 11, walked: true for all that came in. -/
import Derived.Test.YtjdigknhiopdeaaGreatMrDJ
import Derived.Test.YtjdigknhiopdeaaGreatMrFJ
import Derived.Test.YtjdigknhiopdeaaGreatMaMJ
import Derived.Test.YtjdigknhiopdeaaGreatMaLJ
import Derived.Test.YtjdigknhiopdeaaGreatShellJ
namespace Go.Proofs.YtjdigknhiopdeaaGreat
open Go.RowKit Go.Shelf
set_option maxRecDepth 8000
set_option linter.unusedSimpArgs false

/-- What Read answers, in two parts. -/
theorem rdV_parts (xs : List Int) : ∃ (x0 x1 x2 x3 x4 e : Int), rdV xs = .tuple #[.agg #[.int .u32 x0, .int .u32 x1, .int .u32 x2, .int .i64 x3, .int .i64 x4], .int .i64 e] ∧ (xs = [] → e = 110) := by
  unfold rdV
  by_cases h : isM xs = true
  · rw [if_pos h]
    exact ⟨_, _, _, _, _, _, rfl, fun e => by rw [isM_iff] at h; rw [e] at h; simp at h⟩
  · rw [if_neg h]
    exact ⟨_, _, _, _, _, _, rfl, fun _ => rfl⟩

/-- A list that was seen is seen where its block did not change. -/
theorem Sees.keptM {w w' : World} {S : Nat → Prop} {v : Value} {xs : List Int} (h : Sees w v xs) (hk : Kept w w' S) (hn : xs ≠ [] → ∀ k, v.ownBlock = some k → ¬ S k) : Sees w' v xs := by
  obtain ⟨ao, cap, rfl, h1, h2, h0, h3⟩ := h
  refine ⟨ao, cap, rfl, h1, h2, h0, ?_⟩
  rcases h3 with h3 | ⟨b, off, rfl, h3⟩
  · exact .inl h3
  · by_cases hx : xs = []
    · exact .inl hx
    · exact .inr ⟨b, off, rfl, fun i hi => hk.cell (h3 i hi) (hn hx b rfl)⟩

/-- What the walk has in hand: the list that came in, the wide one, two boxes. -/
structure MR (w : World) (v : Value) (xs : List Int) (g : Nat) (zs : List Int) (p q : Nat) (cp cq : Array Value) (W : World) : Prop where
  bel : Below w.heap.size w W
  see : Sees W v xs
  own : Owns W 0 (.slice (some ⟨g, 0, none⟩) zs.length (xs.length + 64)) zs
  rp : W.heap[p]? = some (.cells cp 27 (0, 0))
  rq : W.heap[q]? = some (.cells cq 27 (0, 0))
  lt : w.heap.size ≤ g ∧ g < p ∧ p < q

theorem MR.later {w W W' : World} {v : Value} {xs zs : List Int} {g p q : Nat} {cp cq : Array Value} (h : MR w v xs g zs p q cp cq W) (k : Below W.heap.size W W') : MR w v xs g zs p q cp cq W' := by
  have l1 := lt_of_block h.rp
  have l2 := lt_of_block h.rq
  exact ⟨h.bel.trans (k.mono h.bel.size), h.see.below k (Nat.le_refl _), Owns.kept h.own (Below.kept k) (fun j e e' => by have := (h.own.lt j e).2; omega), (Below.kept k).heap h.rp (fun e => by omega), (Below.kept k).heap h.rq (fun e => by omega), h.lt⟩

theorem ownsAt {w : World} {g n c : Nat} {zs : List Int} (h : Owns w 0 (.slice (some ⟨g, 0, none⟩) n c) zs) : Owns w g (.slice (some ⟨g, 0, none⟩) n c) zs := by
  refine ⟨h.1, ?_⟩
  rcases h.2 with ⟨e, _⟩ | ⟨g', cap, cur, e, _, h2⟩
  · cases e
  · simp at e
    obtain ⟨rfl, _⟩ := e
    exact .inr ⟨g, cap, cur, by simp_all, Nat.le_refl _, h2⟩

set_option maxHeartbeats 4000000 in
theorem reads_walk (v : Value) (xs : List Int) (at_ turn : Int) (w : World) (h : Sees w v xs) (hb : Byts xs) (t0 : 0 ≤ turn) (t1 : turn ≤ 255) :
    Calls Tryz.prog 3 #[v, .int .i64 at_, .int .u8 turn] w fun e w' => e = .returned (.bool true) ∧ Below w.heap.size w w' := by
  obtain ⟨ao, ac, rfl⟩ : ∃ a c, v = .slice a xs.length c := by obtain ⟨a, c, e, _⟩ := h; exact ⟨a, c, e⟩
  obtain ⟨n, hn⟩ : ∃ n, n = xs.length := ⟨_, rfl⟩
  have HS : Hid (Sees w (.slice ao xs.length ac) xs ∧ Byts xs) := ⟨h, hb⟩
  rw [← hn] at HS ⊢
  have HNL : Hid _ := hn
  clear h hb hn
  by_cases hbig : 2147483647 ≤ n
  · have hbig' : decide ((2147483647 : Int) ≤ (n : Int)) = true := decide_eq_true (by omega)
    go_enter Tryz.func3, Tryz.ntmps3
    go_wp2_with fail
    go_ret
    exact ⟨rfl, Below.refl _ _⟩
  have hbig' : decide ((2147483647 : Int) ≤ (n : Int)) = false := decide_eq_false (by omega)
  go_enter Tryz.func3, Tryz.ntmps3
  go_wp2_with fail
  refine (lives_m _).mono ?_
  rintro e w1 ⟨rfl, hb1⟩
  have HB1 : Hid (Below w.heap.size w w1 ∧ Sees w1 (.slice ao n ac) xs) := ⟨hb1, HS.out.1.below hb1 (Nat.le_refl _)⟩
  clear hb1
  go_wp2_with fail
  refine (wideBytes_any _ xs _ HB1.out.2 (by rw [← HNL.out]; omega)).mono ?_
  rw [← HNL.out]
  rintro e w2 ⟨rfl, ho2, hb2⟩
  have HB2 : Hid (Below w.heap.size w w2 ∧ Sees w2 (.slice ao n ac) xs ∧ Owns w2 w1.heap.size (.slice (some ⟨w1.heap.size, 0, none⟩) (wide xs).length (n + 64)) (wide xs) ∧ w.heap.size ≤ w1.heap.size ∧ Sees w2 (.slice (some ⟨w1.heap.size, 0, none⟩) n (n + 64)) xs) := by
    have hp := sees_prefix ho2 (n := n) (by rw [wide_len, ← HNL.out]; omega)
    rw [HNL.out, wide_take, ← HNL.out] at hp
    exact ⟨HB1.out.1.trans (hb2.mono HB1.out.1.size), HB1.out.2.below hb2 (Nat.le_refl _), ho2, HB1.out.1.size, hp⟩
  clear ho2 hb2 HB1
  obtain ⟨x0, x1, x2, x3, x4, E, hV, hE0⟩ := rdV_parts xs
  have HMR : Hid _ := mread_all _ xs w2 HB2.out.2.2.2.2 HS.out.2 (by rw [← HNL.out]; omega)
  rw [hV] at HMR
  have HV : Hid (rdV xs = .tuple #[.agg #[.int .u32 x0, .int .u32 x1, .int .u32 x2, .int .i64 x3, .int .i64 x4], .int .i64 E] ∧ (xs = [] → E = 110)) := ⟨hV, hE0⟩
  clear hV hE0
  have hq : ∀ W : World, (binOp .neq 27 (.agg #[.int .u32 x0, .int .u32 x1, .int .u32 x2, .int .i64 x3, .int .i64 x4]) (.agg #[.int .u32 x0, .int .u32 x1, .int .u32 x2, .int .i64 x3, .int .i64 x4])).run Tryz.prog W = .ok (.bool false) W := fun W => by
    have := neqMan ⟨x0, x1, x2, x3, x4⟩ ⟨x0, x1, x2, x3, x4⟩ W
    rw [eqM_self] at this
    exact this
  go_wp2_with fail
  refine Calls.mono HMR.out ?_
  rintro e w3 ⟨rfl, hb3⟩
  obtain ⟨W3, hW3⟩ : ∃ W3, W3 = w3.alloc (.cells #[.int .u32 x0, .int .u32 x1, .int .u32 x2, .int .i64 x3, .int .i64 x4] 27) := ⟨_, rfl⟩
  have HA3 : Hid _ := hW3
  have HB3 : Hid (Below w2.heap.size w2 W3 ∧ W3.heap[w3.heap.size]? = some (.cells #[.int .u32 x0, .int .u32 x1, .int .u32 x2, .int .i64 x3, .int .i64 x4] 27 (0, 0)) ∧ w2.heap.size ≤ w3.heap.size) := by
    rw [hW3]
    exact ⟨Below.step hb3 (one_allocK _ _), heap_alloc_new w3 _, hb3.size⟩
  have HRR : Hid _ := rread_all (.slice ao n ac) xs W3 (HB2.out.2.1.below HB3.out.1 (Nat.le_refl _)) HS.out.2
  rw [HV.out.1] at HRR
  clear hW3 hb3 HMR
  go_upto_region 6 with fail
  rw [← HA3.out]
  clear HA3
  go_wp2_with fail
  refine Calls.mono HRR.out ?_
  rintro e w4 ⟨rfl, hb4⟩
  obtain ⟨W4, hW4⟩ : ∃ W4, W4 = w4.alloc (.cells #[.int .u32 x0, .int .u32 x1, .int .u32 x2, .int .i64 x3, .int .i64 x4] 27) := ⟨_, rfl⟩
  have HA4 : Hid _ := hW4
  have H4 : Hid (MR w (.slice ao n ac) xs w1.heap.size (wide xs) w3.heap.size w4.heap.size #[.int .u32 x0, .int .u32 x1, .int .u32 x2, .int .i64 x3, .int .i64 x4] #[.int .u32 x0, .int .u32 x1, .int .u32 x2, .int .i64 x3, .int .i64 x4] W4) := by
    rw [hW4]
    have hb5 := Below.step hb4 (one_allocK w4 (.cells #[.int .u32 x0, .int .u32 x1, .int .u32 x2, .int .i64 x3, .int .i64 x4] 27))
    have l3 := lt_of_block HB3.out.2.1
    have hb6 := Below.step HB3.out.1 hb5
    have l1 : w1.heap.size < w2.heap.size := (HB2.out.2.2.1.lt _ rfl).2
    have hs4 := hb4.size
    have hs3 := HB3.out.1.size
    refine ⟨HB2.out.1.trans (hb6.mono HB2.out.1.size), HB2.out.2.1.below hb6 (Nat.le_refl _), ?_, (Below.kept hb5).heap HB3.out.2.1 (fun e => by omega), heap_alloc_new w4 _, ⟨HB2.out.2.2.2.1, by have := HB3.out.2.2; omega, by omega⟩⟩
    have ho := owns_mono HB2.out.2.2.1 (Nat.zero_le _)
    rw [HNL.out] at ho
    exact Owns.kept ho (Below.kept hb6) (fun j e e' => by have := (ho.lt j e).2; omega)
  clear hW4 hb4 HRR HB3 HB2
  go_upto_region 7 with fail
  rw [← HA4.out]
  clear HA4
  have p0 := cell_of_row W4 _ 0 _ _ _ H4.out.rp
  have p1 := cell_of_row W4 _ 1 _ _ _ H4.out.rp
  have p2 := cell_of_row W4 _ 2 _ _ _ H4.out.rp
  have p3 := cell_of_row W4 _ 3 _ _ _ H4.out.rp
  have p4 := cell_of_row W4 _ 4 _ _ _ H4.out.rp
  have q0 := cell_of_row W4 _ 0 _ _ _ H4.out.rq
  have q1 := cell_of_row W4 _ 1 _ _ _ H4.out.rq
  have q2 := cell_of_row W4 _ 2 _ _ _ H4.out.rq
  have q3 := cell_of_row W4 _ 3 _ _ _ H4.out.rq
  have q4 := cell_of_row W4 _ 4 _ _ _ H4.out.rq
  simp only [List.getElem?_toArray, List.getElem?_cons_zero, List.getElem?_cons_succ] at p0 p1 p2 p3 p4 q0 q1 q2 q3 q4
  have lp := lt_of_block H4.out.rp
  have lq := lt_of_block H4.out.rq
  go_wp2_with fail
  refine (eqBytes_any _ _ xs xs _ (by have hp := sees_prefix (n := n) H4.out.own (by rw [wide_len, ← HNL.out]; omega); rw [← HNL.out] at hp; rw [HNL.out, wide_take, ← HNL.out] at hp; exact hp) H4.out.see).mono ?_
  rintro e w5 ⟨he, n5, hw5⟩
  obtain rfl : e = .returned (.bool true) := by rw [he]; simp
  have H5 : Hid (MR w (.slice ao n ac) xs w1.heap.size (wide xs) w3.heap.size w4.heap.size #[.int .u32 x0, .int .u32 x1, .int .u32 x2, .int .i64 x3, .int .i64 x4] #[.int .u32 x0, .int .u32 x1, .int .u32 x2, .int .i64 x3, .int .i64 x4] w5) := by rw [hw5]; exact H4.out.later (below_drewN (Below.refl _ _) n5)
  clear he hw5 H4 p0 p1 p2 p3 p4 q0 q1 q2 q3 q4 lp lq
  have HSP : Hid _ := spareBytes_any w1.heap.size xs (wide xs) w5 (ownsAt H5.out.own) (wide_len xs) (fun j h1 h2 => by rw [wide_nth xs j h2, if_neg (by omega)]) (by rw [← HNL.out]; omega)
  rw [← HNL.out] at HSP
  go_wp2_with fail
  refine Calls.mono HSP.out ?_
  rintro e w6 ⟨rfl, hw6⟩
  subst hw6
  clear HSP
  by_cases hn0 : n = 0
  · have HE0 : Hid (E = 110) := HV.out.2 (List.eq_nil_of_length_eq_zero (by rw [← HNL.out]; exact hn0))
    subst hn0
    rw [HE0.out]
    go_wp2_with fail
    go_ret
    exact ⟨rfl, H5.out.bel⟩
  have hn0' : ((n : Int) == 0) = false := by simp; omega
  have hn1 : (1 : Int) ≤ (n : Int) := by omega
  have hn2 : (n : Int) ≤ 2147483646 := by omega
  obtain ⟨k, HK⟩ : ∃ k : Nat, Hid ((at_.tmod n + n) % n = (k : Int) ∧ k < n) := by
    have b1 := Int.tmod_lt_of_pos at_ (show (0 : Int) < n by omega)
    have b2 : -(n : Int) < at_.tmod n := by
      have := Int.tmod_lt_of_pos (-at_) (show (0 : Int) < n by omega)
      rw [Int.neg_tmod] at this
      omega
    have c1 := Int.emod_lt_of_pos (at_.tmod n + n) (show (0 : Int) < n by omega)
    have c2 := Int.emod_nonneg (at_.tmod n + n) (show (n : Int) ≠ 0 by omega)
    exact ⟨((at_.tmod n + n) % n).toNat, by omega, by omega⟩
  have b1 := Int.tmod_lt_of_pos at_ (show (0 : Int) < n by omega)
  have b2 : -(n : Int) < at_.tmod n := by
    have := Int.tmod_lt_of_pos (-at_) (show (0 : Int) < n by omega)
    rw [Int.neg_tmod] at this
    omega
  have c1 := Int.emod_lt_of_pos (at_.tmod n + n) (show (0 : Int) < n by omega)
  have c2 := Int.emod_nonneg (at_.tmod n + n) (show (n : Int) ≠ 0 by omega)
  go_upto_region 12 with fail
  rw [HK.out.1]
  have hkn : k < n := HK.out.2
  have hkn' : (k : Int) < (n : Int) := by omega
  clear HK b1 b2 c1 c2
  have hwl : k < (wide xs).length := by rw [wide_len, ← HNL.out]; omega
  obtain ⟨x, hx⟩ : ∃ x, x = (wide xs).getD k 0 := ⟨_, rfl⟩
  have hc : w6.cell? ⟨w1.heap.size, k, none⟩ = some (.int .u8 x) := by rw [hx]; exact owns_cell (cap := n + 64) (by have := H5.out.own; rw [← HNL.out] at this; exact this) k hwl
  have hf : w6.frozen? ⟨w1.heap.size, k, none⟩ = false := H5.out.own.frozenAt k
  have hlg : w1.heap.size < w6.heap.size := (H5.out.own.lt _ rfl).2
  have hxb : 0 ≤ x ∧ x ≤ 255 := by rw [hx]; exact (byts_wide HS.out.2).nth k
  have hxx := xor_byte x turn hxb.1 hxb.2 t0 t1
  obtain ⟨y, hy⟩ : ∃ y, y = bits .xor .u8 x turn := ⟨_, rfl⟩
  obtain ⟨W7, hW7⟩ : ∃ W7, W7 = w6.setCell ⟨w1.heap.size, k, none⟩ (.int .u8 y) := ⟨_, rfl⟩
  obtain ⟨zs, hzs⟩ : ∃ zs, zs = (wide xs).set k y := ⟨_, rfl⟩
  have H7 : Hid (MR w (.slice ao n ac) xs w1.heap.size zs w3.heap.size w4.heap.size #[.int .u32 x0, .int .u32 x1, .int .u32 x2, .int .i64 x3, .int .i64 x4] #[.int .u32 x0, .int .u32 x1, .int .u32 x2, .int .i64 x3, .int .i64 x4] W7 ∧ zs.length = n + 64 ∧ Byts zs) := by
    have kp : Kept w6 W7 (fun j => j = w1.heap.size) := by rw [hW7]; exact Kept.setCell (Kept.refl _ _) ⟨w1.heap.size, k, none⟩ _ (fun _ => rfl)
    have hl := H5.out.lt
    have hsz : zs.length = n + 64 := by rw [hzs, List.length_set, wide_len, ← HNL.out]
    refine ⟨⟨H5.out.bel.trans (kp.below H5.out.bel.size (fun j e => by omega)), ?_, ?_, kp.heap H5.out.rp (fun e => by omega), kp.heap H5.out.rq (fun e => by omega), hl⟩, hsz, ?_⟩
    · exact H5.out.see.keptM kp (fun hne j e e' => by
        have := (HS.out.1.lt hne) j e
        omega)
    · rw [hW7, hzs]
      exact (owns_set H5.out.own k y).1
    · rw [hzs, hy]
      exact byts_set (byts_wide HS.out.2) k _ hxx.1 hxx.2
  have HA7 : Hid _ := hW7
  have HY : Hid _ := hy
  clear hW7 hx hxb hxx hwl hzs H5 hy
  go_upto_region 13 with fail
  rw [← HY.out, ← HA7.out]
  clear HY HA7 hc hf
  have hlen : (zs.take n).length = n := by have := H7.out.2.1; simp; omega
  have HLN : Hid _ := hlen
  clear hlen
  have HSE : Hid (∀ W, MR w (.slice ao n ac) xs w1.heap.size zs w3.heap.size w4.heap.size #[.int .u32 x0, .int .u32 x1, .int .u32 x2, .int .i64 x3, .int .i64 x4] #[.int .u32 x0, .int .u32 x1, .int .u32 x2, .int .i64 x3, .int .i64 x4] W → Sees W (.slice (some ⟨w1.heap.size, 0, none⟩) n (n + 64)) (zs.take n)) := fun W hW => by
    have := sees_prefix (n := n) hW.own (by have := H7.out.2.1; omega)
    rw [← HNL.out] at this
    exact this
  go_wp2_with fail
  refine (copyBytes_any _ (zs.take n) _ (HSE.out _ H7.out.1) (by rw [HLN.out]; omega)).mono ?_
  rintro e w8 ⟨v8, rfl, ho8, hb8⟩
  obtain ⟨u0, u1, u2, rfl⟩ : ∃ a n c, v8 = .slice a n c := by obtain ⟨a, c, e, _⟩ := Sees.own ho8; exact ⟨a, _, c, e⟩
  have H8 : Hid (MR w (.slice ao n ac) xs w1.heap.size zs w3.heap.size w4.heap.size #[.int .u32 x0, .int .u32 x1, .int .u32 x2, .int .i64 x3, .int .i64 x4] #[.int .u32 x0, .int .u32 x1, .int .u32 x2, .int .i64 x3, .int .i64 x4] w8 ∧ Owns w8 W7.heap.size (.slice u0 u1 u2) (zs.take n) ∧ Byts (zs.take n) ∧ w4.heap.size < W7.heap.size) := ⟨H7.out.1.later hb8, ho8, H7.out.2.2.take n, lt_of_block H7.out.1.rq⟩
  clear ho8 hb8 H7
  obtain ⟨y0, y1, y2, y3, y4, F, hV, _⟩ := rdV_parts (zs.take n)
  have HV2 : Hid _ := hV
  have HMR : Hid _ := mread_all _ (zs.take n) w8 (HSE.out _ H8.out.1) H8.out.2.2.1 (by rw [HLN.out]; omega)
  rw [hV] at HMR
  clear hV hq
  have hq : ∀ W : World, (binOp .eql 27 (.agg #[.int .u32 y0, .int .u32 y1, .int .u32 y2, .int .i64 y3, .int .i64 y4]) (.agg #[.int .u32 y0, .int .u32 y1, .int .u32 y2, .int .i64 y3, .int .i64 y4])).run Tryz.prog W = .ok (.bool true) W := fun W => by
    have := eqMan ⟨y0, y1, y2, y3, y4⟩ ⟨y0, y1, y2, y3, y4⟩ W
    rw [eqM_self] at this
    exact this
  go_wp2_with fail
  refine Calls.mono HMR.out ?_
  rintro e w9 ⟨rfl, hb9⟩
  have H9 : Hid (MR w (.slice ao n ac) xs w1.heap.size zs w3.heap.size w4.heap.size #[.int .u32 x0, .int .u32 x1, .int .u32 x2, .int .i64 x3, .int .i64 x4] #[.int .u32 x0, .int .u32 x1, .int .u32 x2, .int .i64 x3, .int .i64 x4] w9 ∧ Owns w9 W7.heap.size (.slice u0 u1 u2) (zs.take n)) := ⟨H8.out.1.later hb9, Owns.kept H8.out.2.1 (Below.kept hb9) (fun j e e' => by have := (H8.out.2.1.lt j e).2; omega)⟩
  have r9 := H9.out.1.rp
  have p0 := cell_of_row w9 _ 0 _ _ _ r9
  have p1 := cell_of_row w9 _ 1 _ _ _ r9
  have p2 := cell_of_row w9 _ 2 _ _ _ r9
  have p3 := cell_of_row w9 _ 3 _ _ _ r9
  have p4 := cell_of_row w9 _ 4 _ _ _ r9
  simp only [List.getElem?_toArray, List.getElem?_cons_zero, List.getElem?_cons_succ] at p0 p1 p2 p3 p4
  have f0 := frozen_of_row w9 w3.heap.size 0 _ _ r9
  have f1 := frozen_of_row w9 w3.heap.size 1 _ _ r9
  have f2 := frozen_of_row w9 w3.heap.size 2 _ _ r9
  have f3 := frozen_of_row w9 w3.heap.size 3 _ _ r9
  have f4 := frozen_of_row w9 w3.heap.size 4 _ _ r9
  have lp := lt_of_block r9
  obtain ⟨W9, hW9⟩ : ∃ W9, W9 = set5 w9 w3.heap.size (.int .u32 y0) (.int .u32 y1) (.int .u32 y2) (.int .i64 y3) (.int .i64 y4) := ⟨_, rfl⟩
  have HX9 : Hid (MR w (.slice ao n ac) xs w1.heap.size zs w3.heap.size w4.heap.size #[.int .u32 y0, .int .u32 y1, .int .u32 y2, .int .i64 y3, .int .i64 y4] #[.int .u32 x0, .int .u32 x1, .int .u32 x2, .int .i64 x3, .int .i64 x4] W9 ∧ Owns W9 W7.heap.size (.slice u0 u1 u2) (zs.take n)) := by
    have kp : Kept w9 W9 (fun j => j = w3.heap.size) := by rw [hW9]; exact kept5 _ _ _ _ _ _ _
    have hm := H9.out.1
    have hl := hm.lt
    refine ⟨⟨hm.bel.trans (kp.below hm.bel.size (fun j e => by omega)), ?_, Owns.kept hm.own kp (fun j e e' => by have e2 : w1.heap.size = j := (by simpa [Value.ownBlock] using e); omega), by rw [hW9]; exact row5 hm.rp _ _ _ _ _, kp.heap hm.rq (fun e => by omega), hl⟩, ?_⟩
    · exact hm.see.keptM kp (fun hne j e e' => by have := (HS.out.1.lt hne) j e; omega)
    · exact Owns.kept H9.out.2 kp (fun j e e' => by have := (H9.out.2.lt j e).1; have := H8.out.2.2.2; omega)
  have HA9 : Hid _ := hW9
  clear hW9 r9 hb9 HMR
  go_upto_region 15 with fail
  rw [show ((((w9.setCell ⟨w3.heap.size, 0, none⟩ (.int .u32 y0)).setCell ⟨w3.heap.size, 1, none⟩ (.int .u32 y1)).setCell ⟨w3.heap.size, 2, none⟩ (.int .u32 y2)).setCell ⟨w3.heap.size, 3, none⟩ (.int .i64 y3)).setCell ⟨w3.heap.size, 4, none⟩ (.int .i64 y4) = W9 from HA9.out.symm]
  clear HA9 p0 p1 p2 p3 p4 f0 f1 f2 f3 f4 lp
  have HRR : Hid _ := rread_all (.slice u0 u1 u2) (zs.take n) W9 (Sees.own HX9.out.2) H8.out.2.2.1
  rw [HV2.out] at HRR
  clear H9
  go_wp2_with fail
  refine Calls.mono HRR.out ?_
  rintro e w10 ⟨rfl, hb10⟩
  have H10 : Hid (MR w (.slice ao n ac) xs w1.heap.size zs w3.heap.size w4.heap.size #[.int .u32 y0, .int .u32 y1, .int .u32 y2, .int .i64 y3, .int .i64 y4] #[.int .u32 x0, .int .u32 x1, .int .u32 x2, .int .i64 x3, .int .i64 x4] w10) := HX9.out.1.later hb10
  have r9 := H10.out.rq
  have p0 := cell_of_row w10 _ 0 _ _ _ r9
  have p1 := cell_of_row w10 _ 1 _ _ _ r9
  have p2 := cell_of_row w10 _ 2 _ _ _ r9
  have p3 := cell_of_row w10 _ 3 _ _ _ r9
  have p4 := cell_of_row w10 _ 4 _ _ _ r9
  simp only [List.getElem?_toArray, List.getElem?_cons_zero, List.getElem?_cons_succ] at p0 p1 p2 p3 p4
  have f0 := frozen_of_row w10 w4.heap.size 0 _ _ r9
  have f1 := frozen_of_row w10 w4.heap.size 1 _ _ r9
  have f2 := frozen_of_row w10 w4.heap.size 2 _ _ r9
  have f3 := frozen_of_row w10 w4.heap.size 3 _ _ r9
  have f4 := frozen_of_row w10 w4.heap.size 4 _ _ r9
  have lp := lt_of_block r9
  obtain ⟨W10, hW10⟩ : ∃ W10, W10 = set5 w10 w4.heap.size (.int .u32 y0) (.int .u32 y1) (.int .u32 y2) (.int .i64 y3) (.int .i64 y4) := ⟨_, rfl⟩
  have HX10 : Hid (W10.heap[w3.heap.size]? = some (.cells #[.int .u32 y0, .int .u32 y1, .int .u32 y2, .int .i64 y3, .int .i64 y4] 27 (0, 0)) ∧ W10.heap[w4.heap.size]? = some (.cells #[.int .u32 y0, .int .u32 y1, .int .u32 y2, .int .i64 y3, .int .i64 y4] 27 (0, 0)) ∧ Below w.heap.size w W10) := by
    have kp : Kept w10 W10 (fun j => j = w4.heap.size) := by rw [hW10]; exact kept5 _ _ _ _ _ _ _
    have hm := H10.out
    have hl := hm.lt
    exact ⟨kp.heap hm.rp (fun e => by omega), by rw [hW10]; exact row5 hm.rq _ _ _ _ _, hm.bel.trans (kp.below hm.bel.size (fun j e => by omega))⟩
  have HA10 : Hid _ := hW10
  clear hW10 r9 hb10 HRR HX9
  go_upto_region 16 with fail
  rw [show ((((w10.setCell ⟨w4.heap.size, 0, none⟩ (.int .u32 y0)).setCell ⟨w4.heap.size, 1, none⟩ (.int .u32 y1)).setCell ⟨w4.heap.size, 2, none⟩ (.int .u32 y2)).setCell ⟨w4.heap.size, 3, none⟩ (.int .i64 y3)).setCell ⟨w4.heap.size, 4, none⟩ (.int .i64 y4) = W10 from HA10.out.symm]
  clear HA10 p0 p1 p2 p3 p4 f0 f1 f2 f3 f4 lp H10
  have r3 := HX10.out.1
  have r4 := HX10.out.2.1
  have p0 := cell_of_row W10 _ 0 _ _ _ r3
  have p1 := cell_of_row W10 _ 1 _ _ _ r3
  have p2 := cell_of_row W10 _ 2 _ _ _ r3
  have p3 := cell_of_row W10 _ 3 _ _ _ r3
  have p4 := cell_of_row W10 _ 4 _ _ _ r3
  have q0 := cell_of_row W10 _ 0 _ _ _ r4
  have q1 := cell_of_row W10 _ 1 _ _ _ r4
  have q2 := cell_of_row W10 _ 2 _ _ _ r4
  have q3 := cell_of_row W10 _ 3 _ _ _ r4
  have q4 := cell_of_row W10 _ 4 _ _ _ r4
  simp only [List.getElem?_toArray, List.getElem?_cons_zero, List.getElem?_cons_succ] at p0 p1 p2 p3 p4 q0 q1 q2 q3 q4
  have l3 := lt_of_block r3
  have l4 := lt_of_block r4
  clear r3 r4
  go_wp2_with fail
  go_ret
  exact ⟨rfl, HX10.out.2.2⟩

theorem reads_walk2 (v : Value) (xs : List Int) (at_ turn : Int) (w : World) (h : Sees w v xs) (hb : Byts xs) (_ : -9223372036854775808 ≤ at_ ∧ at_ ≤ 9223372036854775807) (t : 0 ≤ turn ∧ turn ≤ 255) :
    Calls Tryz.prog 3 #[v, .int .i64 at_, .int .u8 turn] w fun e w' => e = .returned (.bool true) ∧ Below w.heap.size w w' :=
  reads_walk v xs at_ turn w h hb t.1 t.2
end Go.Proofs.YtjdigknhiopdeaaGreat
