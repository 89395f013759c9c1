/- The walk of PackGets: every list of texts that is read. -/
import Derived.Test.YtickndnaejdanaaGreatDoorGtDJ
import Derived.Test.YtickndnaejdanaaGreatDoorGtEJ
import Derived.Test.YtickndnaejdanaaGreatDoorBgUJ
import Derived.Test.YtickndnaejdanaaGreatDoorWorksJ
import Derived.Test.YtickndnaejdanaaGreatDoorCopyJ
namespace Go.Proofs.YtickndnaejdanaaGreatDoor
open Go.RowKit
set_option maxRecDepth 8000
set_option linter.unusedSimpArgs false
set_option linter.unusedVariables false

/-- What lies in memory once the three lists are read. -/
structure PG (w W : World) (bs : List Int) (L : List (List Int)) (X : List Int) (F : Int) (g1 gd : Nat) (v1 vd lv mv wv : Value) (p : Nat) : Prop where
  l : W.ownsRow w.heap.size 9 1 lv L.length (txV L)
  m : W.ownsRow w.heap.size 9 1 mv L.length (txV L)
  t : W.ownsRow w.heap.size 9 1 wv L.length (txV L)
  r : IsR W g1 v1 X F
  d : IsQ W gd vd bs p F
  at' : bs.drop p = X
  lm : ∀ k, lv.ownBlock = some k → mv.ownBlock ≠ some k
  lt : ∀ k, lv.ownBlock = some k → wv.ownBlock ≠ some k
  below : Below w.heap.size w W

theorem PG.later {w W W' : World} {bs : List Int} {L : List (List Int)} {X : List Int} {F : Int} {g1 gd : Nat} {v1 vd lv mv wv : Value} {p : Nat} (h : PG w W bs L X F g1 gd v1 vd lv mv wv p) (hk : Kept W W' (fun _ => False)) : PG w W' bs L X F g1 gd v1 vd lv mv wv p :=
  ⟨row_kept h.l hk (fun _ _ h => h), row_kept h.m hk (fun _ _ h => h), row_kept h.t hk (fun _ _ h => h), h.r.kept hk (fun h => h) (fun _ _ h => h), h.d.kept hk (fun h => h) (fun _ _ h => h), h.at', h.lm, h.lt, h.below.trans (hk.below h.below.size (fun _ h => h.elim))⟩

theorem blk_one {v : Value} {n k : Nat} (h : BlkR [⟨v, n⟩] k) : v.ownBlock = some k := by
  obtain ⟨j, hj, e⟩ := h
  simp at hj
  subst hj
  exact e

theorem blk_two {v u : Value} {n m k : Nat} (h : BlkR [⟨v, n⟩, ⟨u, m⟩] k) : v.ownBlock = some k ∨ u.ownBlock = some k := by
  obtain ⟨j, hj, e⟩ := h
  simp at hj
  obtain rfl | rfl : j = 0 ∨ j = 1 := by omega
  · exact .inl e
  · exact .inr e

/-- A call that changes what is new alone. -/
theorem kept_bag {w w' : World} {o : Obj} {g : Nat} {v : Value} (hg : g = w.heap.size) (h : Kept (w.alloc o) w' (fun k => k = g ∨ v.ownBlock = some k)) (hv : ∀ k, v.ownBlock = some k → w.heap.size ≤ k) : Kept w w' (fun _ => False) :=
  ((Kept.refl w _).alloc o).trans h (fun k hk e => by
    rcases e with e | e
    · omega
    · have := hv k e; omega)

theorem glL_len (most : Int) (bs : List Int) (h : bs.length ≤ 67108864) : (glL most bs).length ≤ 67108864 := by
  unfold glL
  split
  · have h1 := gs_len (rdCnt most bs 0).rest (rdCnt most bs 0).fault (rdCnt most bs 0).out.toNat
    unfold gl
    rcases rdCnt_ways most bs with ⟨_, hc⟩ | ⟨_, _, hc⟩ | ⟨_, _, _, _, hc⟩ | ⟨_, _, _, _, hc⟩ <;> rw [hc] at h1 ⊢ <;> simp only at h1 ⊢ <;> omega
  · simp

theorem apart_one (v : Value) (n : Nat) : ApartR [⟨v, n⟩] := fun i j hi hj hne => by
  simp at hi hj
  omega

theorem apart_two {v u : Value} {n m : Nat} (h : ∀ k, v.ownBlock = some k → u.ownBlock ≠ some k) : ApartR [⟨v, n⟩, ⟨u, m⟩] := fun i j hi hj hne g hg => by
  simp at hi hj
  obtain rfl | rfl : i = 0 ∨ i = 1 := by omega
  · obtain rfl : j = 1 := by omega
    exact h g hg
  · obtain rfl : j = 0 := by omega
    exact fun e => h g e hg

set_option maxHeartbeats 4000000 in
theorem gets_walk (v : Value) (bs : List Int) (most : Int) (w : World) (hs : Sees w v bs) (hb : Byts bs) (ht : Tab w) (hg0 : 0 < w.heap.size) :
    Calls Tryz.prog 3 #[v, .int .i64 most] w fun e w' => e = .returned (.bool true) ∧ Below w.heap.size w w' := by
  have H : Hid (Sees w v bs ∧ Byts bs ∧ Tab w) := ⟨hs, hb, ht⟩
  obtain ⟨ao, cap, rfl, hlc, hcm, _, _⟩ := hs
  clear hb ht
  go_enter Tryz.func3, Tryz.ntmps3
  go_wp2_with fail
  refine (works_any _).mono ?_
  rintro e w1 ⟨rfl, b1⟩
  have HB1 : Hid (Below w.heap.size w w1) := b1
  clear b1
  by_cases hlen : bs.length ≤ 67108864
  · have d0 : decide ((67108864 : Int) < (bs.length : Int)) = false := by simp; omega
    go_wp2_with fail
    refine (copyBytes_any _ bs w1 (H.out.1.below HB1.out (Nat.le_refl _)) (by omega)).mono ?_
    rintro e w2 ⟨u1, rfl, ho2, b2⟩
    have HB2 : Hid (Below w.heap.size w w2 ∧ Owns w2 w1.heap.size u1 bs) := ⟨HB1.out.trans (b2.mono HB1.out.size), ho2⟩
    obtain ⟨x1, x2, x3, rfl⟩ := owns_shape ho2
    clear ho2 b2
    go_wp2_with fail
    refine (new_any _ bs w2 (Sees.own HB2.out.2) (by omega)).mono ?_
    rintro e w3 ⟨g1, v1, rfl, hr3, hg3, ho3, b3⟩
    have HB3 : Hid (Below w.heap.size w w3 ∧ IsR w3 g1 v1 bs 0 ∧ (∀ k, v1.ownBlock = some k → k < w3.heap.size) ∧ w.heap.size ≤ g1) := ⟨HB2.out.1.trans (b3.mono HB2.out.1.size), hr3, fun k e => (ho3.lt k e).2, Nat.le_trans HB2.out.1.size hg3⟩
    have z3 : g1 < w3.heap.size := lt_of_block hr3.1
    clear hr3 hg3 ho3 b3
    go_wp2_with fail
    refine (copyBytes_any _ bs w3 (H.out.1.below HB3.out.1 (Nat.le_refl _)) (by omega)).mono ?_
    rintro e w4 ⟨u2, rfl, ho4, b4⟩
    have HB4 : Hid (Below w.heap.size w w4 ∧ Owns w4 w3.heap.size u2 bs ∧ Below w3.heap.size w3 w4) := ⟨HB3.out.1.trans (b4.mono HB3.out.1.size), ho4, b4⟩
    obtain ⟨y1, y2, y3, rfl⟩ := owns_shape ho4
    clear ho4 b4
    go_wp2_with fail
    refine (new_any _ bs w4 (Sees.own HB4.out.2.1) (by omega)).mono ?_
    rintro e w5 ⟨g2, v2, rfl, hr5, hg5, ho5, b5⟩
    have z4 : w3.heap.size ≤ w4.heap.size := HB4.out.2.2.size
    have z5 : g2 < w5.heap.size := lt_of_block hr5.1
    have k35 : Kept w3 w5 (fun _ => False) := (below_new HB4.out.2.2).trans (below_new b5) (fun _ _ h => h)
    have HB5 : Hid (Below w.heap.size w w5 ∧ IsR w5 g1 v1 bs 0 ∧ IsR w5 g2 v2 bs 0 ∧ (∀ k, v1.ownBlock = some k → k < w3.heap.size) ∧ (∀ k, v2.ownBlock = some k → w4.heap.size ≤ k ∧ k < w5.heap.size)) :=
      ⟨HB4.out.1.trans (b5.mono HB4.out.1.size), HB3.out.2.1.kept k35 (fun h => h) (fun _ _ h => h), hr5, HB3.out.2.2.1, fun k e => ho5.lt k e⟩
    have z6 : w.heap.size ≤ g1 := HB3.out.2.2.2
    clear hr5 ho5 b5 k35 HB3 HB4 HB2
    go_wp2_with fail
    refine (getListS_any g1 v1 bs most w5 HB5.out.2.1 H.out.2.1 (fun k e => by have := HB5.out.2.2.2.1 k e; omega) (by omega)).mono ?_
    rintro e w6 ⟨lv, rfl, hl6, v1', a1, a2, a3⟩
    have HB6 : Hid (Below w.heap.size w w6 ∧ IsR w6 g1 v1' (gl most bs).2.1 (gl most bs).2.2 ∧ IsR w6 g2 v2 bs 0 ∧ (∀ k, v1'.ownBlock = some k → k < w3.heap.size) ∧ (∀ k, v2.ownBlock = some k → k < w6.heap.size) ∧ w6.ownsRow w5.heap.size 9 1 lv (glL most bs).length (txV (glL most bs))) :=
      ⟨HB5.out.1.trans (a3.below HB5.out.1.size (fun k e => by omega)), a1, HB5.out.2.2.1.kept a3 (by omega) (fun k e e' => by have := (HB5.out.2.2.2.2 k e).1; omega), fun k e => HB5.out.2.2.2.1 k (a2 k e), fun k e => Nat.lt_of_lt_of_le (HB5.out.2.2.2.2 k e).2 a3.size, hl6⟩
    have z7 : w5.heap.size ≤ w6.heap.size := a3.size
    obtain ⟨l1, l2, l3, rfl⟩ := row_form hl6
    clear hl6 a1 a2 a3 HB5
    go_wp2_with fail
    refine (getListS_any g2 v2 bs most w6 HB6.out.2.2.1 H.out.2.1 HB6.out.2.2.2.2.1 (by omega)).mono ?_
    rintro e w7 ⟨mv, rfl, hl7, v2', a1, a2, a3⟩
    have z8 : w6.heap.size ≤ w7.heap.size := a3.size
    have HB7 : Hid (Below w.heap.size w w7 ∧ IsR w7 g1 v1' (gl most bs).2.1 (gl most bs).2.2 ∧ (∀ k, v1'.ownBlock = some k → k < w7.heap.size) ∧ w7.ownsRow w5.heap.size 9 1 (.slice l1 l2 l3) (glL most bs).length (txV (glL most bs)) ∧ w7.ownsRow w6.heap.size 9 1 mv (glL most bs).length (txV (glL most bs)) ∧ (∀ k, (Value.slice l1 l2 l3).ownBlock = some k → mv.ownBlock ≠ some k)) :=
      ⟨HB6.out.1.trans (a3.below HB6.out.1.size (fun k e => by omega)), HB6.out.2.1.kept a3 (by omega) (fun k e e' => by have := HB6.out.2.2.2.1 k e; omega), fun k e => by have := HB6.out.2.2.2.1 k e; omega,
        row_kept HB6.out.2.2.2.2.2 a3 (fun k e e' => by have := row_base HB6.out.2.2.2.2.2 e; omega), hl7, fun k e e' => by have h1 := row_lt HB6.out.2.2.2.2.2 e; have h2 := row_base hl7 e'; omega⟩
    obtain ⟨m1, m2, m3, rfl⟩ := row_form hl7
    clear hl7 a1 a2 a3 HB6
    go_wp2_with fail
    refine (refNewG _ bs w7 (H.out.1.below HB7.out.1 (Nat.le_refl _)) (by omega)).mono ?_
    rintro e w8 ⟨gd, vd, rfl, hq8, hg8, hv8, b8⟩
    have HB8 : Hid (IsQ w8 gd vd bs 0 0 ∧ Below w7.heap.size w7 w8 ∧ (∀ k, vd.ownBlock = some k → w7.heap.size ≤ k ∧ k < gd)) := ⟨hq8, b8, hv8⟩
    clear hq8 b8 hv8
    go_wp2_with fail
    have hqc := qCount_any gd vd bs 0 0 w8 most HB8.out.1 H.out.2.1
    rw [List.drop_zero] at hqc
    refine hqc.mono ?_
    clear hqc
    rintro e w9 ⟨rfl, p9, e9, hq9, k9⟩
    have HB9 : Hid (bs.drop p9 = (rdCnt most bs 0).rest ∧ IsQ w9 gd vd bs p9 (rdCnt most bs 0).fault ∧ Below w7.heap.size w7 w9 ∧ (∀ k, vd.ownBlock = some k → w7.heap.size ≤ k ∧ k < gd) ∧ gl most bs = gs (rdCnt most bs 0).rest (rdCnt most bs 0).fault (rdCnt most bs 0).out.toNat ∧ Byts (rdCnt most bs 0).rest) :=
      ⟨e9, hq9, HB8.out.2.1.trans (k9.below HB8.out.2.1.size (fun k e => by omega)), HB8.out.2.2, rfl, fun x hx => H.out.2.1 x (by rw [← e9] at hx; exact List.mem_of_mem_drop hx)⟩
    have hrange : -1 ≤ (rdCnt most bs 0).out ∧ (rdCnt most bs 0).out ≤ 67108864 := by
      rcases rdCnt_ways most bs with ⟨_, hc⟩ | ⟨_, _, hc⟩ | ⟨_, _, _, _, hc⟩ | ⟨_, _, _, _, hc⟩ <;> rw [hc] <;> constructor <;> simp only <;> omega
    have z9 : w8.heap.size ≤ w9.heap.size := k9.size
    have z10 : gd < w9.heap.size := lt_of_block hq9.1
    obtain ⟨i0, hi, hz0, hz1, hz2⟩ := info_parts Tryz.infoStrG
    clear e9 hq9 k9 HB8
    generalize rdCnt most bs 0 = C at *
    go_wp2_with fail
    go_loopw [12, 13] (fun tv i wr => ∃ k : Nat, k ≤ C.out.toNat ∧ i = .int .i64 k ∧ Hid (wr.ownsRow w9.heap.size 9 1 tv (gs C.rest C.fault k).1.length (txV (gs C.rest C.fault k).1) ∧ QTo w9 gd vd bs ⟨0, (gs C.rest C.fault k).2.1, (gs C.rest C.fault k).2.2⟩ wr)) (fun _ i _ => C.out.toNat - (intOf i).toNat)
    case atStart => exact ⟨0, Nat.zero_le _, rfl, World.ownsRow_nil _ _ _ _, p9, HB9.out.1, HB9.out.2.1, Kept.refl _ _⟩
    case round =>
      obtain ⟨k, hk, rfl, HR⟩ := hrel
      obtain ⟨pk, ek, hqk, kk⟩ := HR.out.2
      have hc2 := hqk.c2
      have hd0 : decide ((k : Int) < C.out) = decide (k < C.out.toNat) := by
        rw [decide_eq_decide]
        omega
      by_cases hlt : k < C.out.toNat ∧ (gs C.rest C.fault k).2.2 = 0
      · obtain ⟨hlt, hf⟩ := hlt
        have d1 : decide ((k : Int) < C.out) = true := by simp; omega
        have HT := qText_any gd vd bs pk _ wr 8 hqk H.out.2.1
        simp only [hf] at hc2 HT hqk
        rw [ek] at HT
        have HNX : Hid (gs C.rest C.fault (k + 1) = ((gs C.rest C.fault k).1 ++ [(rdBuf 8 (gs C.rest C.fault k).2.1 0).1], (rdBuf 8 (gs C.rest C.fault k).2.1 0).2.rest, (rdBuf 8 (gs C.rest C.fault k).2.1 0).2.fault) ∧ (gs C.rest C.fault k).1.length = k) := ⟨gs_next hf, gs_full hf⟩
        have HA : Hid (Kept w9 wr (· = gd) ∧ wr.ownsRow w9.heap.size 9 1 u12 k (txV (gs C.rest C.fault k).1)) := ⟨kk, by have := HR.out.1; rwa [HNX.out.2] at this⟩
        have hsz := kk.size
        clear HR ek hqk kk hf hd0
        generalize gs C.rest C.fault k = G at *
        generalize rdBuf 8 G.2.1 0 = R at *
        go_wp2_with fail
        refine HT.mono ?_
        clear HT
        rintro e w11 ⟨rfl, hq11⟩
        have HB11 : Hid (QTo w9 gd vd bs R.2 w11 ∧ w11.ownsRow w9.heap.size 9 1 u12 k (txV G.1)) := by
          obtain ⟨p11, e11, q11, k11⟩ := hq11
          exact ⟨⟨p11, e11, q11, HA.out.1.trans k11 (fun _ _ h => h)⟩, row_kept HA.out.2 k11 (fun j e e' => by have h1 := row_base HA.out.2 e; omega)⟩
        have hsz4 : w9.heap.size ≤ w11.heap.size := by obtain ⟨_, _, _, b3⟩ := HB11.out.1; exact b3.size
        clear hq11 HA
        obtain ⟨sx, hsx⟩ : ∃ sx, sx = strOfNums R.1 := ⟨_, rfl⟩
        rw [← hsx]
        have HSX : Hid _ := hsx
        clear hsx
        go_wp2_with (at_builtin; refine wpList_append_own_at _ rfl _ _ 27 rfl w9.heap.size 9 i0 _ 1 16 Tryz.underlying27 hi hz0 hz1 hz2 rfl (by decide) _ _ _ rfl (row_kept HB11.out.2 ((Kept.refl w11 (fun _ => False)).alloc _) (fun _ _ h => h)) ⟨w11.heap.size, 0, none⟩ 1 1 [.string sx] rfl rfl ?c1 ?c2 ?c3 ?c4 ?c5 ?_)
        case c1 =>
          intro j u hj
          rw [addrAddG, Nat.zero_add, cell_of_row _ _ _ _ _ _ (heap_alloc_new _ _)]
          rw [← hj]
          simp
        case c2 =>
          intro u hu
          simp only [List.mem_cons, List.not_mem_nil, or_false] at hu
          rcases hu with rfl
          rfl
        case c3 => unfold maxLen; omega
        case c4 => omega
        case c5 => simp; omega
        intro v' w12 hown' hgrow _ _
        have HR5 : Hid (w12.ownsRow w9.heap.size 9 1 v' (k + 1) (txV G.1 ++ [.string sx]) ∧ QTo w9 gd vd bs R.2 w12) := by
          refine ⟨hown', ?_⟩
          obtain ⟨p5, e5, b1, b3⟩ := HB11.out.1
          have hka := (Kept.refl w11 (fun _ => False)).alloc (.cells #[.string sx] 9)
          have hkg : Kept (w11.alloc (.cells #[.string sx] 9)) w12 (fun j => u12.ownBlock = some j) := ⟨hgrow.os, hgrow.tape, hgrow.output, hgrow.size, fun j hj hn => hgrow.block j hj (fun e => hn e.symm)⟩
          have hkk := (hka.mono (S' := fun j => u12.ownBlock = some j) (fun _ _ h => h.elim)).trans hkg (fun _ _ h => h)
          have hlo : ∀ j, u12.ownBlock = some j → w9.heap.size ≤ j := fun j e => row_base HB11.out.2 e
          exact ⟨p5, e5, b1.kept hkk (fun e => by have := hlo gd e; omega) (fun j e e' => by have h1 := hlo j e'; have h2 := HB9.out.2.2.2.1 j e; omega), b3.trans hkk (fun j hj e => by have := hlo j e; omega)⟩
        clear hown' hgrow HB11
        go_wp2_with fail
        go_roundw
        case rel =>
          refine ⟨k + 1, by omega, by go_num, ?_⟩
          rw [HNX.out.1]
          refine ⟨?_, HR5.out.2⟩
          have h5 := HR5.out.1
          rw [HSX.out] at h5
          rw [show (G.1 ++ [R.1]).length = k + 1 by simp [HNX.out.2], show txV (G.1 ++ [R.1]) = txV G.1 ++ [.string (strOfNums R.1)] by simp [txV]]
          exact h5
        case measure => simp [intOf]; omega
      · have hPG : ∀ (wv : Value), (wr.ownsRow w9.heap.size 9 1 wv (glL most bs).length (txV (glL most bs))) → (gl most bs).2.2 = (gs C.rest C.fault k).2.2 ∧ PG w wr bs (glL most bs) (gl most bs).2.1 (gl most bs).2.2 g1 gd v1' vd (.slice l1 l2 l3) (.slice m1 m2 m3) wv pk := fun wv hwv => by
          have he : gl most bs = gs C.rest C.fault k := by
            rw [HB9.out.2.2.2.2.1]
            refine gs_end hk ?_
            by_cases e : k = C.out.toNat
            · exact .inl e
            · exact .inr (fun h => hlt ⟨by omega, h⟩)
          have kb : Below w7.heap.size w7 wr := HB9.out.2.2.1.trans (kk.below HB9.out.2.2.1.size (fun k e => by omega))
          have k7 := below_new kb
          have z11 := HB9.out.2.2.1.size
          refine ⟨by rw [he], row_down (row_kept HB7.out.2.2.2.1 k7 (fun _ _ h => h)) (by have := HB7.out.1.size; omega), row_down (row_kept HB7.out.2.2.2.2.1 k7 (fun _ _ h => h)) (by have := HB7.out.1.size; omega), row_down hwv (by have := HB7.out.1.size; omega), HB7.out.2.1.kept k7 (fun h => h) (fun _ _ h => h), by rw [he]; exact hqk, by rw [he]; exact ek, HB7.out.2.2.2.2.2, fun q e e' => ?_, HB7.out.1.trans (kb.mono HB7.out.1.size)⟩
          have h1 := row_lt HB7.out.2.2.2.1 e
          have h2 := row_base hwv e'
          omega
        have hLn := glL_len most bs hlen
        have HU : Hid ((gs C.rest C.fault k).2.2 = 0 → wr.ownsRow w9.heap.size 9 1 u12 (glL most bs).length (txV (glL most bs))) := fun h0 => by
          have he : gl most bs = gs C.rest C.fault k := by
            rw [HB9.out.2.2.2.2.1]
            refine gs_end hk ?_
            by_cases e : k = C.out.toNat
            · exact .inl e
            · exact .inr (fun h => hlt ⟨by omega, h⟩)
          unfold glL
          rw [he, if_pos h0]
          exact HR.out.1
        have HU0 : Hid ((gs C.rest C.fault k).2.2 ≠ 0 → glL most bs = []) := fun h0 => by
          have he : gl most bs = gs C.rest C.fault k := by
            rw [HB9.out.2.2.2.2.1]
            refine gs_end hk ?_
            by_cases e : k = C.out.toNat
            · exact .inl e
            · exact .inr (fun h => hlt ⟨by omega, h⟩)
          unfold glL
          rw [he, if_neg h0]
        have hu12 := row_form HR.out.1
        have HPG : Hid _ := hPG
        clear hPG HR ek hqk kk HB7 HB9
        generalize (gs C.rest C.fault k).2.2 = F0 at *
        generalize glL most bs = L at *
        generalize (gl most bs).2.1 = X at *
        generalize (gl most bs).2.2 = F at *
        obtain ⟨wo, hwo⟩ : ∃ wo, wo = wr := ⟨_, rfl⟩
        subst hwo
        obtain ⟨ua, un, uc, rfl⟩ := hu12
        by_cases hF : F0 = 0
        · subst hF
          obtain ⟨rfl, hP⟩ := HPG.out _ (HU.out rfl)
          have HP : Hid (PG w wo bs L X 0 g1 gd v1' vd (.slice l1 l2 l3) (.slice m1 m2 m3) (.slice ua un uc) pk) := hP
          have hkn : ¬ (k < C.out.toNat) := fun h => hlt ⟨h, rfl⟩
          have d1 : decide ((k : Int) < C.out) = false := by simp; omega
          clear HPG HU HU0 hlt hd0 hP
          obtain ⟨E0, hE0⟩ : ∃ E0 : Int, E0 = (if (0 : Int) ≠ 0 then 0 else if X = [] then 0 else 13) := ⟨_, rfl⟩
          have HSt : Hid (∀ V, Kept wo V (fun _ => False) → V.cell? ⟨gd, 2, none⟩ = some (.int .i64 0) ∧ (Calls Tryz.prog 12 #[.slice l1 l2 l3, .slice ua un uc] V fun e w' => e = .returned (.bool true) ∧ ∃ n, w' = V.drewN n) ∧ (Calls Tryz.prog 13 #[.pointer (some ⟨g1, 0, none⟩)] V fun e w' => e = .returned (.int .i64 (X.length : Int)) ∧ w' = V) ∧ (Calls Tryz.prog 14 #[.pointer (some ⟨gd, 0, none⟩)] V fun e w' => e = .returned (.int .i64 (X.length : Int)) ∧ ∃ n, w' = V.drewN n) ∧ (Calls Tryz.prog 15 #[.pointer (some ⟨g1, 0, none⟩)] V fun e w' => e = .returned (.int .i64 0) ∧ w' = V) ∧ (Calls Tryz.prog 16 #[.pointer (some ⟨g1, 0, none⟩)] V fun e w' => e = .returned (.int .i64 E0) ∧ w' = V) ∧ (Calls Tryz.prog 17 #[.pointer (some ⟨gd, 0, none⟩)] V fun e w' => e = .returned (.int .i64 E0) ∧ ∃ n, w' = V.drewN n)) := fun V hk => by
            have hp := HP.out.later hk
            have q1 := qLeft_any gd vd bs pk 0 V hp.d
            have q2 := qEnd_any gd vd bs pk 0 V hp.d
            have q3 := rEnd_any g1 v1' X 0 V hp.r
            rw [hp.at'] at q1 q2
            rw [← hE0] at q2 q3
            exact ⟨hp.d.c2, eqTexts_is _ _ _ _ _ V hp.l hp.t (by omega), rLeft_any g1 v1' X 0 V hp.r, q1, rErr_any g1 v1' X 0 V hp.r, q3, q2⟩
          have HKc : Hid (Kept wo wo.drew (fun _ => False)) := (Kept.refl wo _).drewN 1
          have hc2 := HP.out.d.c2
          clear hE0
          go_upto_region 19 with fail
          clear hc2
          refine wp_region_held_drew (S := fun V' => V'.cell? ⟨gd, 2, none⟩ = some (.int .i64 0)) (by kernel_rfl) ?_ (fun hHeld => ?_)
          · exact (HSt.out _ HKc.out).1
          refine wpAnyH_take (i := 0) (oi := { dst := some 68, op := Op.move (Operand.tmp 8), type := 27, pos := "law.go:480", after := #[], guard := none }) (v := ?_) rfl (by kernel_rfl) (by kernel_rfl) (by kernel_rfl) (fun _ _ _ h => h) (Or.inl ⟨by rfl, ?_⟩) (by assumption) ?_
          rotate_left
          · (intro w hSw; (try dsimp only at hSw); go_simp) <;> with_reducible rfl
          try simp only [Act.put, List.setIfInBounds_toArray, List.set_cons_zero, List.set_cons_succ]
          refine wpAnyH_take (i := 1) (oi := { dst := some 69, op := Op.move (Operand.tmp 12), type := 27, pos := "law.go:480", after := #[], guard := none }) (v := ?_) rfl (by kernel_rfl) (by kernel_rfl) (by kernel_rfl) (fun _ _ _ h => h) (Or.inl ⟨by rfl, ?_⟩) (by assumption) ?_
          rotate_left
          · (intro w hSw; (try dsimp only at hSw); go_simp) <;> with_reducible rfl
          try simp only [Act.put, List.setIfInBounds_toArray, List.set_cons_zero, List.set_cons_succ]
          refine wpAnyH_ready (rs := [2]) (by kernel_rfl) (by simp) ?_
          refine AllReadyH.cons (o := { dst := some 70, op := Op.call { callee := Callee.value (Operand.func 12), args := #[Operand.tmp 68, Operand.tmp 69], argTypes := #[27, 27] }, type := 4, pos := "law.go:480", after := #[{ on := 0, ground := Ground.data }, { on := 1, ground := Ground.data }], guard := none }) rfl (fun K hK => ?_) AllReadyH.nil
          go_simp
          refine Calls.mono ((HSt.out _ HKc.out).2.1) ?_
          rintro e wa ⟨rfl, n0, hwc⟩
          have HKd : Hid (Kept wo wa (fun _ => False)) := by rw [hwc]; exact HKc.out.drewN n0
          clear hHeld HKc hwc
          have HKc := HKd
          clear HKd
          refine hK.out _ _ (HSt.out _ HKc.out).1 (fun hHeld => ?_)
          clear hK K
          refine wpAnyH_take (i := 3) (oi := { dst := some 71, op := Op.unOp UnOp.not 4 (Operand.tmp 70), type := 4, pos := "law.go:480", after := #[{ on := 2, ground := Ground.data }], guard := none }) (v := ?_) rfl (by kernel_rfl) (by kernel_rfl) (by kernel_rfl) (fun _ _ _ h => h) (Or.inl ⟨by rfl, ?_⟩) (by assumption) ?_
          rotate_left
          · (intro w hSw; (try dsimp only at hSw); go_simp) <;> with_reducible rfl
          try simp only [Act.put, List.setIfInBounds_toArray, List.set_cons_zero, List.set_cons_succ]
          refine wpAnyH_take (i := 4) (oi := { dst := some 72, op := Op.move (Operand.tmp 71), type := 4, pos := "law.go:480", after := #[{ on := 3, ground := Ground.data }, { on := 2, ground := Ground.chain }], guard := none }) (v := ?_) rfl (by kernel_rfl) (by kernel_rfl) (by kernel_rfl) (fun _ _ _ h => h) (Or.inl ⟨by rfl, ?_⟩) (by assumption) ?_
          rotate_left
          · (intro w hSw; (try dsimp only at hSw); go_simp) <;> with_reducible rfl
          try simp only [Act.put, List.setIfInBounds_toArray, List.set_cons_zero, List.set_cons_succ]
          refine wpAnyH_take (i := 5) (oi := { dst := some 73, op := Op.move (Operand.tmp 6), type := 24, pos := "law.go:480", after := #[{ on := 4, ground := Ground.guard }], guard := some (4, false) }) (v := ?_) rfl (by kernel_rfl) (by kernel_rfl) (by kernel_rfl) (fun _ _ _ h => h) (Or.inl ⟨by rfl, ?_⟩) (by assumption) ?_
          rotate_left
          · (intro w hSw; (try dsimp only at hSw); go_simp) <;> with_reducible rfl
          try simp only [Act.put, List.setIfInBounds_toArray, List.set_cons_zero, List.set_cons_succ]
          refine wpAnyH_take (i := 7) (oi := { dst := some 75, op := Op.move (Operand.tmp 10), type := 30, pos := "law.go:480", after := #[{ on := 4, ground := Ground.guard }], guard := some (4, false) }) (v := ?_) rfl (by kernel_rfl) (by kernel_rfl) (by kernel_rfl) (fun _ _ _ h => h) (Or.inl ⟨by rfl, ?_⟩) (by assumption) ?_
          rotate_left
          · (intro w hSw; (try dsimp only at hSw); go_simp) <;> with_reducible rfl
          try simp only [Act.put, List.setIfInBounds_toArray, List.set_cons_zero, List.set_cons_succ]
          refine wpAnyH_ready (rs := [6]) (by kernel_rfl) (by simp) ?_
          refine AllReadyH.cons (o := { dst := some 74, op := Op.call { callee := Callee.value (Operand.func 13), args := #[Operand.tmp 73], argTypes := #[24] }, type := 3, pos := "law.go:480", after := #[{ on := 5, ground := Ground.data }, { on := 4, ground := Ground.chain }, { on := 4, ground := Ground.guard }], guard := some (4, false) }) rfl (fun K hK => ?_) AllReadyH.nil
          go_simp
          refine Calls.mono ((HSt.out _ HKc.out).2.2.1) ?_
          rintro e wb ⟨rfl, hwc⟩
          have HKd : Hid (Kept wo wb (fun _ => False)) := by rw [hwc]; exact HKc.out
          clear hHeld HKc hwc
          have HKc := HKd
          clear HKd
          refine hK.out _ _ (HSt.out _ HKc.out).1 (fun hHeld => ?_)
          clear hK K
          refine wpAnyH_ready (rs := [8]) (by kernel_rfl) (by simp) ?_
          refine AllReadyH.cons (o := { dst := some 76, op := Op.call { callee := Callee.value (Operand.func 14), args := #[Operand.tmp 75], argTypes := #[30] }, type := 3, pos := "law.go:480", after := #[{ on := 7, ground := Ground.data }, { on := 6, ground := Ground.chain }, { on := 4, ground := Ground.guard }], guard := some (4, false) }) rfl (fun K hK => ?_) AllReadyH.nil
          go_simp
          refine Calls.mono ((HSt.out _ HKc.out).2.2.2.1) ?_
          rintro e wc ⟨rfl, n0, hwc⟩
          have HKd : Hid (Kept wo wc (fun _ => False)) := by rw [hwc]; exact HKc.out.drewN n0
          clear hHeld HKc hwc
          have HKc := HKd
          clear HKd
          refine hK.out _ _ (HSt.out _ HKc.out).1 (fun hHeld => ?_)
          clear hK K
          refine wpAnyH_take (i := 9) (oi := { dst := some 77, op := Op.binOp BinOp.neq 3 (Operand.tmp 74) (Operand.tmp 76) 3, type := 4, pos := "law.go:480", after := #[{ on := 6, ground := Ground.data }, { on := 8, ground := Ground.data }, { on := 4, ground := Ground.guard }], guard := some (4, false) }) (v := ?_) rfl (by kernel_rfl) (by kernel_rfl) (by kernel_rfl) (fun _ _ _ h => h) (Or.inl ⟨by rfl, ?_⟩) (by assumption) ?_
          rotate_left
          · (intro w hSw; (try dsimp only at hSw); go_simp) <;> with_reducible rfl
          try simp only [Act.put, List.setIfInBounds_toArray, List.set_cons_zero, List.set_cons_succ]
          refine wpAnyH_take (i := 10) (oi := { dst := some 78, op := Op.pick (Operand.tmp 72) (Operand.const (Value.bool true)) (Operand.tmp 77), type := 4, pos := "law.go:480", after := #[{ on := 4, ground := Ground.data }, { on := 9, ground := Ground.data }], guard := none }) (v := ?_) rfl (by kernel_rfl) (by kernel_rfl) (by kernel_rfl) (fun _ _ _ h => h) (Or.inl ⟨by rfl, ?_⟩) (by assumption) ?_
          rotate_left
          · (intro w hSw; (try dsimp only at hSw); go_simp) <;> with_reducible rfl
          try simp only [Act.put, List.setIfInBounds_toArray, List.set_cons_zero, List.set_cons_succ]
          refine wpAnyH_take (i := 11) (oi := { dst := some 79, op := Op.move (Operand.tmp 78), type := 4, pos := "law.go:480", after := #[{ on := 10, ground := Ground.data }, { on := 8, ground := Ground.chain }], guard := none }) (v := ?_) rfl (by kernel_rfl) (by kernel_rfl) (by kernel_rfl) (fun _ _ _ h => h) (Or.inl ⟨by rfl, ?_⟩) (by assumption) ?_
          rotate_left
          · (intro w hSw; (try dsimp only at hSw); go_simp) <;> with_reducible rfl
          try simp only [Act.put, List.setIfInBounds_toArray, List.set_cons_zero, List.set_cons_succ]
          refine wpAnyH_take (i := 12) (oi := { dst := some 80, op := Op.move (Operand.tmp 6), type := 24, pos := "law.go:480", after := #[{ on := 11, ground := Ground.guard }], guard := some (11, false) }) (v := ?_) rfl (by kernel_rfl) (by kernel_rfl) (by kernel_rfl) (fun _ _ _ h => h) (Or.inl ⟨by rfl, ?_⟩) (by assumption) ?_
          rotate_left
          · (intro w hSw; (try dsimp only at hSw); go_simp) <;> with_reducible rfl
          try simp only [Act.put, List.setIfInBounds_toArray, List.set_cons_zero, List.set_cons_succ]
          refine wpAnyH_take (i := 14) (oi := { dst := some 82, op := Op.move (Operand.tmp 10), type := 30, pos := "law.go:480", after := #[{ on := 11, ground := Ground.guard }], guard := some (11, false) }) (v := ?_) rfl (by kernel_rfl) (by kernel_rfl) (by kernel_rfl) (fun _ _ _ h => h) (Or.inl ⟨by rfl, ?_⟩) (by assumption) ?_
          rotate_left
          · (intro w hSw; (try dsimp only at hSw); go_simp) <;> with_reducible rfl
          try simp only [Act.put, List.setIfInBounds_toArray, List.set_cons_zero, List.set_cons_succ]
          refine wpAnyH_take (i := 15) (oi := { dst := some 83, op := Op.nilCheck (Operand.tmp 82), type := 0, pos := "law.go:480", after := #[{ on := 14, ground := Ground.data }, { on := 11, ground := Ground.guard }], guard := some (11, false) }) (v := ?_) rfl (by kernel_rfl) (by kernel_rfl) (by kernel_rfl) (fun _ _ _ h => h) (Or.inl ⟨by rfl, ?_⟩) (by assumption) ?_
          rotate_left
          · (intro w hSw; (try dsimp only at hSw); go_simp) <;> with_reducible rfl
          try simp only [Act.put, List.setIfInBounds_toArray, List.set_cons_zero, List.set_cons_succ]
          refine wpAnyH_take (i := 16) (oi := { dst := some 84, op := Op.fieldAddr 35 (Operand.tmp 83) 2, type := 0, pos := "law.go:480", after := #[{ on := 15, ground := Ground.data }, { on := 11, ground := Ground.guard }], guard := some (11, false) }) (v := ?_) rfl (by kernel_rfl) (by kernel_rfl) (by kernel_rfl) (fun _ _ _ h => h) (Or.inl ⟨by rfl, ?_⟩) (by assumption) ?_
          rotate_left
          · (intro w hSw; (try dsimp only at hSw); go_simp) <;> with_reducible rfl
          try simp only [Act.put, List.setIfInBounds_toArray, List.set_cons_zero, List.set_cons_succ]
          refine wpAnyH_take (i := 17) (oi := { dst := some 85, op := Op.load 33 (Operand.tmp 84), type := 33, pos := "law.go:480", after := #[{ on := 16, ground := Ground.data }, { on := 11, ground := Ground.guard }], guard := some (11, false) }) (v := ?_) rfl (by kernel_rfl) (by kernel_rfl) (by kernel_rfl) (fun _ _ _ h => h) (Or.inl ⟨by rfl, ?_⟩) (by assumption) ?_
          rotate_left
          · (intro w hSw; (try dsimp only at hSw); go_simp) <;> with_reducible rfl
          try simp only [Act.put, List.setIfInBounds_toArray, List.set_cons_zero, List.set_cons_succ]
          refine wpAnyH_ready (rs := [13]) (by kernel_rfl) (by simp) ?_
          refine AllReadyH.cons (o := { dst := some 81, op := Op.call { callee := Callee.value (Operand.func 15), args := #[Operand.tmp 80], argTypes := #[24] }, type := 33, pos := "law.go:480", after := #[{ on := 12, ground := Ground.data }, { on := 11, ground := Ground.chain }, { on := 11, ground := Ground.guard }], guard := some (11, false) }) rfl (fun K hK => ?_) AllReadyH.nil
          go_simp
          refine Calls.mono ((HSt.out _ HKc.out).2.2.2.2.1) ?_
          rintro e wd ⟨rfl, hwc⟩
          have HKd : Hid (Kept wo wd (fun _ => False)) := by rw [hwc]; exact HKc.out
          clear hHeld HKc hwc
          have HKc := HKd
          clear HKd
          refine hK.out _ _ (HSt.out _ HKc.out).1 (fun hHeld => ?_)
          clear hK K
          refine wpAnyH_take (i := 18) (oi := { dst := some 86, op := Op.binOp BinOp.neq 33 (Operand.tmp 81) (Operand.tmp 85) 33, type := 4, pos := "law.go:480", after := #[{ on := 13, ground := Ground.data }, { on := 17, ground := Ground.data }, { on := 11, ground := Ground.guard }], guard := some (11, false) }) (v := ?_) rfl (by kernel_rfl) (by kernel_rfl) (by kernel_rfl) (fun _ _ _ h => h) (Or.inl ⟨by rfl, ?_⟩) (by assumption) ?_
          rotate_left
          · (intro w hSw; (try dsimp only at hSw); go_simp) <;> with_reducible rfl
          try simp only [Act.put, List.setIfInBounds_toArray, List.set_cons_zero, List.set_cons_succ]
          refine wpAnyH_take (i := 19) (oi := { dst := some 87, op := Op.pick (Operand.tmp 79) (Operand.const (Value.bool true)) (Operand.tmp 86), type := 4, pos := "law.go:480", after := #[{ on := 11, ground := Ground.data }, { on := 18, ground := Ground.data }], guard := none }) (v := ?_) rfl (by kernel_rfl) (by kernel_rfl) (by kernel_rfl) (fun _ _ _ h => h) (Or.inl ⟨by rfl, ?_⟩) (by assumption) ?_
          rotate_left
          · (intro w hSw; (try dsimp only at hSw); go_simp) <;> with_reducible rfl
          try simp only [Act.put, List.setIfInBounds_toArray, List.set_cons_zero, List.set_cons_succ]
          refine wpAnyH_take (i := 20) (oi := { dst := some 88, op := Op.move (Operand.tmp 87), type := 4, pos := "law.go:480", after := #[{ on := 19, ground := Ground.data }, { on := 13, ground := Ground.chain }], guard := none }) (v := ?_) rfl (by kernel_rfl) (by kernel_rfl) (by kernel_rfl) (fun _ _ _ h => h) (Or.inl ⟨by rfl, ?_⟩) (by assumption) ?_
          rotate_left
          · (intro w hSw; (try dsimp only at hSw); go_simp) <;> with_reducible rfl
          try simp only [Act.put, List.setIfInBounds_toArray, List.set_cons_zero, List.set_cons_succ]
          refine wpAnyH_take (i := 21) (oi := { dst := some 89, op := Op.move (Operand.tmp 6), type := 24, pos := "law.go:480", after := #[{ on := 20, ground := Ground.guard }], guard := some (20, false) }) (v := ?_) rfl (by kernel_rfl) (by kernel_rfl) (by kernel_rfl) (fun _ _ _ h => h) (Or.inl ⟨by rfl, ?_⟩) (by assumption) ?_
          rotate_left
          · (intro w hSw; (try dsimp only at hSw); go_simp) <;> with_reducible rfl
          try simp only [Act.put, List.setIfInBounds_toArray, List.set_cons_zero, List.set_cons_succ]
          refine wpAnyH_take (i := 23) (oi := { dst := some 91, op := Op.move (Operand.tmp 10), type := 30, pos := "law.go:480", after := #[{ on := 20, ground := Ground.guard }], guard := some (20, false) }) (v := ?_) rfl (by kernel_rfl) (by kernel_rfl) (by kernel_rfl) (fun _ _ _ h => h) (Or.inl ⟨by rfl, ?_⟩) (by assumption) ?_
          rotate_left
          · (intro w hSw; (try dsimp only at hSw); go_simp) <;> with_reducible rfl
          try simp only [Act.put, List.setIfInBounds_toArray, List.set_cons_zero, List.set_cons_succ]
          refine wpAnyH_ready (rs := [22]) (by kernel_rfl) (by simp) ?_
          refine AllReadyH.cons (o := { dst := some 90, op := Op.call { callee := Callee.value (Operand.func 16), args := #[Operand.tmp 89], argTypes := #[24] }, type := 33, pos := "law.go:480", after := #[{ on := 21, ground := Ground.data }, { on := 20, ground := Ground.chain }, { on := 20, ground := Ground.guard }], guard := some (20, false) }) rfl (fun K hK => ?_) AllReadyH.nil
          go_simp
          refine Calls.mono ((HSt.out _ HKc.out).2.2.2.2.2.1) ?_
          rintro e we ⟨rfl, hwc⟩
          have HKd : Hid (Kept wo we (fun _ => False)) := by rw [hwc]; exact HKc.out
          clear hHeld HKc hwc
          have HKc := HKd
          clear HKd
          refine hK.out _ _ (HSt.out _ HKc.out).1 (fun hHeld => ?_)
          clear hK K
          refine wpAnyH_ready (rs := [24]) (by kernel_rfl) (by simp) ?_
          refine AllReadyH.cons (o := { dst := some 92, op := Op.call { callee := Callee.value (Operand.func 17), args := #[Operand.tmp 91], argTypes := #[30] }, type := 33, pos := "law.go:480", after := #[{ on := 23, ground := Ground.data }, { on := 22, ground := Ground.chain }, { on := 20, ground := Ground.guard }], guard := some (20, false) }) rfl (fun K hK => ?_) AllReadyH.nil
          go_simp
          refine Calls.mono ((HSt.out _ HKc.out).2.2.2.2.2.2) ?_
          rintro e wf ⟨rfl, n0, hwc⟩
          have HKd : Hid (Kept wo wf (fun _ => False)) := by rw [hwc]; exact HKc.out.drewN n0
          clear hHeld HKc hwc
          have HKc := HKd
          clear HKd
          refine hK.out _ _ (HSt.out _ HKc.out).1 (fun hHeld => ?_)
          clear hK K
          refine wpAnyH_take (i := 25) (oi := { dst := some 93, op := Op.binOp BinOp.neq 33 (Operand.tmp 90) (Operand.tmp 92) 33, type := 4, pos := "law.go:480", after := #[{ on := 22, ground := Ground.data }, { on := 24, ground := Ground.data }, { on := 20, ground := Ground.guard }], guard := some (20, false) }) (v := ?_) rfl (by kernel_rfl) (by kernel_rfl) (by kernel_rfl) (fun _ _ _ h => h) (Or.inl ⟨by rfl, ?_⟩) (by assumption) ?_
          rotate_left
          · (intro w hSw; (try dsimp only at hSw); go_simp) <;> with_reducible rfl
          try simp only [Act.put, List.setIfInBounds_toArray, List.set_cons_zero, List.set_cons_succ]
          refine wpAnyH_take (i := 26) (oi := { dst := some 94, op := Op.pick (Operand.tmp 88) (Operand.const (Value.bool true)) (Operand.tmp 93), type := 4, pos := "law.go:480", after := #[{ on := 20, ground := Ground.data }, { on := 25, ground := Ground.data }], guard := none }) (v := ?_) rfl (by kernel_rfl) (by kernel_rfl) (by kernel_rfl) (fun _ _ _ h => h) (Or.inl ⟨by rfl, ?_⟩) (by assumption) ?_
          rotate_left
          · (intro w hSw; (try dsimp only at hSw); go_simp) <;> with_reducible rfl
          try simp only [Act.put, List.setIfInBounds_toArray, List.set_cons_zero, List.set_cons_succ]
          refine wpAnyH_done (by kernel_rfl) ?_ _
          clear hHeld HSt
          have HPf : Hid (PG w wf bs L X 0 g1 gd v1' vd (.slice l1 l2 l3) (.slice m1 m2 m3) (.slice ua un uc) pk) := HP.out.later HKc.out
          clear HKc HP
          go_wp2_with fail
          refine (addTexts_any wf.heap.size nilB [] w.heap.size l1 l2 l3 _ ⟨heap_alloc_new _ _, World.ownsRow_nil _ _ _ _⟩ (by simp) (by have := HPf.out.below.size; simp; omega)).mono ?_
          rintro e wg ⟨rfl, tv, hbg, kg, _⟩
          have hfg : Kept wf wg (fun _ => False) := kept_bag rfl kg (fun k e => by simp [Value.ownBlock] at e)
          have HPg : Hid (PG w wg bs L X 0 g1 gd v1' vd (.slice l1 l2 l3) (.slice m1 m2 m3) (.slice ua un uc) pk) := HPf.out.later hfg
          have HBg : Hid (BagTx wg wf.heap.size tv [.slice l1 l2 l3] w.heap.size) := hbg
          clear hbg kg hfg HPf
          go_wp2_with fail
          refine (bagApart_tx wf.heap.size w.heap.size tv [⟨.slice l1 l2 l3, L.length⟩] (fun _ => txV L) wg HBg.out (fun j hj => by simp at hj; subst hj; exact row_down HPg.out.l (Nat.zero_le _)) (apart_one _ _) (by simp) (fun j hj => by simp at hj; subst hj; simp only [List.getElem_cons_zero]; omega) (tab_same H.out.2.2 (HPg.out.below.block _ hg0)) (Nat.lt_of_lt_of_le hg0 HPg.out.below.size) (fun hb => by have := row_base HPg.out.l (blk_one hb); omega)).mono ?_
          rintro e wh ⟨rfl, kh, Xs, hrh⟩
          have HPh : Hid (wh.ownsRow 0 9 1 (.slice l1 l2 l3) L.length (Xs 0) ∧ wh.ownsRow w.heap.size 9 1 (.slice m1 m2 m3) L.length (txV L) ∧ wh.ownsRow w.heap.size 9 1 (.slice ua un uc) L.length (txV L) ∧ (∀ k, (Value.slice l1 l2 l3).ownBlock = some k → w.heap.size ≤ k) ∧ (∀ k, (Value.slice l1 l2 l3).ownBlock = some k → (Value.slice m1 m2 m3).ownBlock ≠ some k) ∧ Below w.heap.size w wh) :=
            ⟨hrh 0 (by simp), row_kept HPg.out.m kh (fun k e hb => HPg.out.lm k (blk_one hb) e), row_kept HPg.out.t kh (fun k e hb => HPg.out.lt k (blk_one hb) e), fun k e => row_base HPg.out.l e, HPg.out.lm, HPg.out.below.trans (kh.below HPg.out.below.size (fun k hb => row_base HPg.out.l (blk_one hb)))⟩
          clear hrh kh HBg HPg
          go_wp2_with fail
          refine (eqTexts_is _ _ _ _ _ wh HPh.out.2.1 HPh.out.2.2.1 (by omega)).mono ?_
          rintro e wi ⟨rfl, n0, hwi⟩
          have hki : Kept wh wi (fun _ => False) := by rw [hwi]; exact (Kept.refl wh _).drewN n0
          have HPi : Hid (wi.ownsRow 0 9 1 (.slice l1 l2 l3) L.length (Xs 0) ∧ wi.ownsRow w.heap.size 9 1 (.slice m1 m2 m3) L.length (txV L) ∧ (∀ k, (Value.slice l1 l2 l3).ownBlock = some k → w.heap.size ≤ k) ∧ (∀ k, (Value.slice l1 l2 l3).ownBlock = some k → (Value.slice m1 m2 m3).ownBlock ≠ some k) ∧ Below w.heap.size w wi) :=
            ⟨row_kept HPh.out.1 hki (fun _ _ h => h), row_kept HPh.out.2.1 hki (fun _ _ h => h), HPh.out.2.2.2.1, HPh.out.2.2.2.2.1, HPh.out.2.2.2.2.2.trans (hki.below HPh.out.2.2.2.2.2.size (fun _ h => h.elim))⟩
          clear hki hwi HPh
          go_wp2_with fail
          refine (addTexts_any wi.heap.size nilB [] w.heap.size l1 l2 l3 _ ⟨heap_alloc_new _ _, World.ownsRow_nil _ _ _ _⟩ (by simp) (by have := HPi.out.2.2.2.2.size; simp; omega)).mono ?_
          rintro e wj ⟨rfl, tj, hbj, kj, nj⟩
          have HBj : Hid (BagTx wj wi.heap.size tj [.slice l1 l2 l3] w.heap.size ∧ Kept wi wj (fun _ => False) ∧ ∀ k, tj.ownBlock = some k → wi.heap.size ≤ k) := ⟨hbj, kept_bag rfl kj (fun k e => by simp [Value.ownBlock] at e), fun k e => by
            rcases nj with h | ⟨q, h, hq⟩
            · rw [h] at e; simp [Value.ownBlock] at e
            · rw [h] at e
              simp at e hq
              omega⟩
          clear hbj kj nj
          go_wp2_with fail
          refine (addTexts_any wi.heap.size tj [.slice l1 l2 l3] w.heap.size m1 m2 m3 _ HBj.out.1 (by simp) (by have := HPi.out.2.2.2.2.size; have := HBj.out.2.1.size; omega)).mono ?_
          rintro e wk ⟨rfl, tk, hbk, kk2, _⟩
          have hik : Kept wi wk (fun _ => False) := HBj.out.2.1.trans kk2 (fun k hk e => by
            rcases e with e | e
            · omega
            · have := HBj.out.2.2 k e; omega)
          have HPk : Hid (BagTx wk wi.heap.size tk [.slice l1 l2 l3, .slice m1 m2 m3] w.heap.size ∧ wk.ownsRow 0 9 1 (.slice l1 l2 l3) L.length (Xs 0) ∧ wk.ownsRow w.heap.size 9 1 (.slice m1 m2 m3) L.length (txV L) ∧ (∀ k, (Value.slice l1 l2 l3).ownBlock = some k → w.heap.size ≤ k) ∧ (∀ k, (Value.slice l1 l2 l3).ownBlock = some k → (Value.slice m1 m2 m3).ownBlock ≠ some k) ∧ Below w.heap.size w wk) :=
            ⟨hbk, row_kept HPi.out.1 hik (fun _ _ h => h), row_kept HPi.out.2.1 hik (fun _ _ h => h), HPi.out.2.2.1, HPi.out.2.2.2.1, HPi.out.2.2.2.2.trans (hik.below HPi.out.2.2.2.2.size (fun _ h => h.elim))⟩
          clear hbk kk2 hik HBj HPi
          go_wp2_with fail
          refine (bagApart_tx wi.heap.size w.heap.size tk [⟨.slice l1 l2 l3, L.length⟩, ⟨.slice m1 m2 m3, L.length⟩] (fun j => if j = 0 then Xs 0 else txV L) wk HPk.out.1 (fun j hj => by
            simp at hj
            obtain rfl | rfl : j = 0 ∨ j = 1 := by omega
            · exact HPk.out.2.1
            · exact row_down HPk.out.2.2.1 (Nat.zero_le _)) (apart_two HPk.out.2.2.2.2.1) (by simp) (fun j hj => by
            simp at hj
            obtain rfl | rfl : j = 0 ∨ j = 1 := by omega
            · simp only [List.getElem_cons_zero]; omega
            · simp only [List.getElem_cons_succ, List.getElem_cons_zero]; omega) (tab_same H.out.2.2 (HPk.out.2.2.2.2.2.block _ hg0)) (Nat.lt_of_lt_of_le hg0 HPk.out.2.2.2.2.2.size) (fun hb => by
            rcases blk_two hb with e | e
            · have := HPk.out.2.2.2.1 _ e; omega
            · have := row_base HPk.out.2.2.1 e; omega)).mono ?_
          rintro e wl ⟨rfl, kl, _⟩
          have HE : Hid (Below w.heap.size w wl) := HPk.out.2.2.2.2.2.trans (kl.below HPk.out.2.2.2.2.2.size (fun k hb => by
            rcases blk_two hb with e | e
            · exact HPk.out.2.2.2.1 _ e
            · exact row_base HPk.out.2.2.1 e))
          clear kl HPk
          go_wp2
          go_ret
          exact ⟨rfl, HE.out⟩
        · have hL0 := HU0.out hF
          subst hL0
          obtain ⟨hFe, hP⟩ := HPG.out (.slice none 0 0) (World.ownsRow_nil _ _ _ _)
          subst hFe
          have HP : Hid (PG w wo bs [] X F g1 gd v1' vd (.slice l1 l2 l3) (.slice m1 m2 m3) (.slice none 0 0) pk) := hP
          have hF1 : (F == 0) = false := by simp [hF]
          have hF2 : (F != 0) = true := by simp [hF]
          have hF3 : decide (F = 0) = false := by simp [hF]
          clear HPG HU HU0 hlt hP
          by_cases hkn : k < C.out.toNat
          · have d1 : decide ((k : Int) < C.out) = true := by simp; omega
            obtain ⟨E0, hE0⟩ : ∃ E0 : Int, E0 = (if (F : Int) ≠ 0 then F else if X = [] then 0 else 13) := ⟨_, rfl⟩
            have HSt : Hid (∀ V, Kept wo V (fun _ => False) → V.cell? ⟨gd, 2, none⟩ = some (.int .i64 F) ∧ (Calls Tryz.prog 12 #[.slice l1 l2 l3, .slice none 0 0] V fun e w' => e = .returned (.bool true) ∧ ∃ n, w' = V.drewN n) ∧ (Calls Tryz.prog 13 #[.pointer (some ⟨g1, 0, none⟩)] V fun e w' => e = .returned (.int .i64 (X.length : Int)) ∧ w' = V) ∧ (Calls Tryz.prog 14 #[.pointer (some ⟨gd, 0, none⟩)] V fun e w' => e = .returned (.int .i64 (X.length : Int)) ∧ ∃ n, w' = V.drewN n) ∧ (Calls Tryz.prog 15 #[.pointer (some ⟨g1, 0, none⟩)] V fun e w' => e = .returned (.int .i64 F) ∧ w' = V) ∧ (Calls Tryz.prog 16 #[.pointer (some ⟨g1, 0, none⟩)] V fun e w' => e = .returned (.int .i64 E0) ∧ w' = V) ∧ (Calls Tryz.prog 17 #[.pointer (some ⟨gd, 0, none⟩)] V fun e w' => e = .returned (.int .i64 E0) ∧ ∃ n, w' = V.drewN n)) := fun V hk => by
              have hp := HP.out.later hk
              have q1 := qLeft_any gd vd bs pk F V hp.d
              have q2 := qEnd_any gd vd bs pk F V hp.d
              have q3 := rEnd_any g1 v1' X F V hp.r
              rw [hp.at'] at q1 q2
              rw [← hE0] at q2 q3
              exact ⟨hp.d.c2, eqTexts_is _ _ _ _ _ V hp.l hp.t (by omega), rLeft_any g1 v1' X F V hp.r, q1, rErr_any g1 v1' X F V hp.r, q3, q2⟩
            have HKc : Hid (Kept wo wo.drew (fun _ => False)) := (Kept.refl wo _).drewN 1
            have hc2 := HP.out.d.c2
            clear hE0
            go_upto_region 19 with fail
            clear hc2
            refine wp_region_held_drew (S := fun V' => V'.cell? ⟨gd, 2, none⟩ = some (.int .i64 F)) (by kernel_rfl) ?_ (fun hHeld => ?_)
            · exact (HSt.out _ HKc.out).1
            refine wpAnyH_take (i := 0) (oi := { dst := some 68, op := Op.move (Operand.tmp 8), type := 27, pos := "law.go:480", after := #[], guard := none }) (v := ?_) rfl (by kernel_rfl) (by kernel_rfl) (by kernel_rfl) (fun _ _ _ h => h) (Or.inl ⟨by rfl, ?_⟩) (by assumption) ?_
            rotate_left
            · (intro w hSw; (try dsimp only at hSw); go_simp) <;> with_reducible rfl
            try simp only [Act.put, List.setIfInBounds_toArray, List.set_cons_zero, List.set_cons_succ]
            refine wpAnyH_take (i := 1) (oi := { dst := some 69, op := Op.move (Operand.tmp 12), type := 27, pos := "law.go:480", after := #[], guard := none }) (v := ?_) rfl (by kernel_rfl) (by kernel_rfl) (by kernel_rfl) (fun _ _ _ h => h) (Or.inl ⟨by rfl, ?_⟩) (by assumption) ?_
            rotate_left
            · (intro w hSw; (try dsimp only at hSw); go_simp) <;> with_reducible rfl
            try simp only [Act.put, List.setIfInBounds_toArray, List.set_cons_zero, List.set_cons_succ]
            refine wpAnyH_ready (rs := [2]) (by kernel_rfl) (by simp) ?_
            refine AllReadyH.cons (o := { dst := some 70, op := Op.call { callee := Callee.value (Operand.func 12), args := #[Operand.tmp 68, Operand.tmp 69], argTypes := #[27, 27] }, type := 4, pos := "law.go:480", after := #[{ on := 0, ground := Ground.data }, { on := 1, ground := Ground.data }], guard := none }) rfl (fun K hK => ?_) AllReadyH.nil
            go_simp
            refine Calls.mono ((HSt.out _ HKc.out).2.1) ?_
            rintro e wa ⟨rfl, n0, hwc⟩
            have HKd : Hid (Kept wo wa (fun _ => False)) := by rw [hwc]; exact HKc.out.drewN n0
            clear hHeld HKc hwc
            have HKc := HKd
            clear HKd
            refine hK.out _ _ (HSt.out _ HKc.out).1 (fun hHeld => ?_)
            clear hK K
            refine wpAnyH_take (i := 3) (oi := { dst := some 71, op := Op.unOp UnOp.not 4 (Operand.tmp 70), type := 4, pos := "law.go:480", after := #[{ on := 2, ground := Ground.data }], guard := none }) (v := ?_) rfl (by kernel_rfl) (by kernel_rfl) (by kernel_rfl) (fun _ _ _ h => h) (Or.inl ⟨by rfl, ?_⟩) (by assumption) ?_
            rotate_left
            · (intro w hSw; (try dsimp only at hSw); go_simp) <;> with_reducible rfl
            try simp only [Act.put, List.setIfInBounds_toArray, List.set_cons_zero, List.set_cons_succ]
            refine wpAnyH_take (i := 4) (oi := { dst := some 72, op := Op.move (Operand.tmp 71), type := 4, pos := "law.go:480", after := #[{ on := 3, ground := Ground.data }, { on := 2, ground := Ground.chain }], guard := none }) (v := ?_) rfl (by kernel_rfl) (by kernel_rfl) (by kernel_rfl) (fun _ _ _ h => h) (Or.inl ⟨by rfl, ?_⟩) (by assumption) ?_
            rotate_left
            · (intro w hSw; (try dsimp only at hSw); go_simp) <;> with_reducible rfl
            try simp only [Act.put, List.setIfInBounds_toArray, List.set_cons_zero, List.set_cons_succ]
            refine wpAnyH_take (i := 5) (oi := { dst := some 73, op := Op.move (Operand.tmp 6), type := 24, pos := "law.go:480", after := #[{ on := 4, ground := Ground.guard }], guard := some (4, false) }) (v := ?_) rfl (by kernel_rfl) (by kernel_rfl) (by kernel_rfl) (fun _ _ _ h => h) (Or.inl ⟨by rfl, ?_⟩) (by assumption) ?_
            rotate_left
            · (intro w hSw; (try dsimp only at hSw); go_simp) <;> with_reducible rfl
            try simp only [Act.put, List.setIfInBounds_toArray, List.set_cons_zero, List.set_cons_succ]
            refine wpAnyH_take (i := 7) (oi := { dst := some 75, op := Op.move (Operand.tmp 10), type := 30, pos := "law.go:480", after := #[{ on := 4, ground := Ground.guard }], guard := some (4, false) }) (v := ?_) rfl (by kernel_rfl) (by kernel_rfl) (by kernel_rfl) (fun _ _ _ h => h) (Or.inl ⟨by rfl, ?_⟩) (by assumption) ?_
            rotate_left
            · (intro w hSw; (try dsimp only at hSw); go_simp) <;> with_reducible rfl
            try simp only [Act.put, List.setIfInBounds_toArray, List.set_cons_zero, List.set_cons_succ]
            refine wpAnyH_ready (rs := [6]) (by kernel_rfl) (by simp) ?_
            refine AllReadyH.cons (o := { dst := some 74, op := Op.call { callee := Callee.value (Operand.func 13), args := #[Operand.tmp 73], argTypes := #[24] }, type := 3, pos := "law.go:480", after := #[{ on := 5, ground := Ground.data }, { on := 4, ground := Ground.chain }, { on := 4, ground := Ground.guard }], guard := some (4, false) }) rfl (fun K hK => ?_) AllReadyH.nil
            go_simp
            refine Calls.mono ((HSt.out _ HKc.out).2.2.1) ?_
            rintro e wb ⟨rfl, hwc⟩
            have HKd : Hid (Kept wo wb (fun _ => False)) := by rw [hwc]; exact HKc.out
            clear hHeld HKc hwc
            have HKc := HKd
            clear HKd
            refine hK.out _ _ (HSt.out _ HKc.out).1 (fun hHeld => ?_)
            clear hK K
            refine wpAnyH_ready (rs := [8]) (by kernel_rfl) (by simp) ?_
            refine AllReadyH.cons (o := { dst := some 76, op := Op.call { callee := Callee.value (Operand.func 14), args := #[Operand.tmp 75], argTypes := #[30] }, type := 3, pos := "law.go:480", after := #[{ on := 7, ground := Ground.data }, { on := 6, ground := Ground.chain }, { on := 4, ground := Ground.guard }], guard := some (4, false) }) rfl (fun K hK => ?_) AllReadyH.nil
            go_simp
            refine Calls.mono ((HSt.out _ HKc.out).2.2.2.1) ?_
            rintro e wc ⟨rfl, n0, hwc⟩
            have HKd : Hid (Kept wo wc (fun _ => False)) := by rw [hwc]; exact HKc.out.drewN n0
            clear hHeld HKc hwc
            have HKc := HKd
            clear HKd
            refine hK.out _ _ (HSt.out _ HKc.out).1 (fun hHeld => ?_)
            clear hK K
            refine wpAnyH_take (i := 9) (oi := { dst := some 77, op := Op.binOp BinOp.neq 3 (Operand.tmp 74) (Operand.tmp 76) 3, type := 4, pos := "law.go:480", after := #[{ on := 6, ground := Ground.data }, { on := 8, ground := Ground.data }, { on := 4, ground := Ground.guard }], guard := some (4, false) }) (v := ?_) rfl (by kernel_rfl) (by kernel_rfl) (by kernel_rfl) (fun _ _ _ h => h) (Or.inl ⟨by rfl, ?_⟩) (by assumption) ?_
            rotate_left
            · (intro w hSw; (try dsimp only at hSw); go_simp) <;> with_reducible rfl
            try simp only [Act.put, List.setIfInBounds_toArray, List.set_cons_zero, List.set_cons_succ]
            refine wpAnyH_take (i := 10) (oi := { dst := some 78, op := Op.pick (Operand.tmp 72) (Operand.const (Value.bool true)) (Operand.tmp 77), type := 4, pos := "law.go:480", after := #[{ on := 4, ground := Ground.data }, { on := 9, ground := Ground.data }], guard := none }) (v := ?_) rfl (by kernel_rfl) (by kernel_rfl) (by kernel_rfl) (fun _ _ _ h => h) (Or.inl ⟨by rfl, ?_⟩) (by assumption) ?_
            rotate_left
            · (intro w hSw; (try dsimp only at hSw); go_simp) <;> with_reducible rfl
            try simp only [Act.put, List.setIfInBounds_toArray, List.set_cons_zero, List.set_cons_succ]
            refine wpAnyH_take (i := 11) (oi := { dst := some 79, op := Op.move (Operand.tmp 78), type := 4, pos := "law.go:480", after := #[{ on := 10, ground := Ground.data }, { on := 8, ground := Ground.chain }], guard := none }) (v := ?_) rfl (by kernel_rfl) (by kernel_rfl) (by kernel_rfl) (fun _ _ _ h => h) (Or.inl ⟨by rfl, ?_⟩) (by assumption) ?_
            rotate_left
            · (intro w hSw; (try dsimp only at hSw); go_simp) <;> with_reducible rfl
            try simp only [Act.put, List.setIfInBounds_toArray, List.set_cons_zero, List.set_cons_succ]
            refine wpAnyH_take (i := 12) (oi := { dst := some 80, op := Op.move (Operand.tmp 6), type := 24, pos := "law.go:480", after := #[{ on := 11, ground := Ground.guard }], guard := some (11, false) }) (v := ?_) rfl (by kernel_rfl) (by kernel_rfl) (by kernel_rfl) (fun _ _ _ h => h) (Or.inl ⟨by rfl, ?_⟩) (by assumption) ?_
            rotate_left
            · (intro w hSw; (try dsimp only at hSw); go_simp) <;> with_reducible rfl
            try simp only [Act.put, List.setIfInBounds_toArray, List.set_cons_zero, List.set_cons_succ]
            refine wpAnyH_take (i := 14) (oi := { dst := some 82, op := Op.move (Operand.tmp 10), type := 30, pos := "law.go:480", after := #[{ on := 11, ground := Ground.guard }], guard := some (11, false) }) (v := ?_) rfl (by kernel_rfl) (by kernel_rfl) (by kernel_rfl) (fun _ _ _ h => h) (Or.inl ⟨by rfl, ?_⟩) (by assumption) ?_
            rotate_left
            · (intro w hSw; (try dsimp only at hSw); go_simp) <;> with_reducible rfl
            try simp only [Act.put, List.setIfInBounds_toArray, List.set_cons_zero, List.set_cons_succ]
            refine wpAnyH_take (i := 15) (oi := { dst := some 83, op := Op.nilCheck (Operand.tmp 82), type := 0, pos := "law.go:480", after := #[{ on := 14, ground := Ground.data }, { on := 11, ground := Ground.guard }], guard := some (11, false) }) (v := ?_) rfl (by kernel_rfl) (by kernel_rfl) (by kernel_rfl) (fun _ _ _ h => h) (Or.inl ⟨by rfl, ?_⟩) (by assumption) ?_
            rotate_left
            · (intro w hSw; (try dsimp only at hSw); go_simp) <;> with_reducible rfl
            try simp only [Act.put, List.setIfInBounds_toArray, List.set_cons_zero, List.set_cons_succ]
            refine wpAnyH_take (i := 16) (oi := { dst := some 84, op := Op.fieldAddr 35 (Operand.tmp 83) 2, type := 0, pos := "law.go:480", after := #[{ on := 15, ground := Ground.data }, { on := 11, ground := Ground.guard }], guard := some (11, false) }) (v := ?_) rfl (by kernel_rfl) (by kernel_rfl) (by kernel_rfl) (fun _ _ _ h => h) (Or.inl ⟨by rfl, ?_⟩) (by assumption) ?_
            rotate_left
            · (intro w hSw; (try dsimp only at hSw); go_simp) <;> with_reducible rfl
            try simp only [Act.put, List.setIfInBounds_toArray, List.set_cons_zero, List.set_cons_succ]
            refine wpAnyH_take (i := 17) (oi := { dst := some 85, op := Op.load 33 (Operand.tmp 84), type := 33, pos := "law.go:480", after := #[{ on := 16, ground := Ground.data }, { on := 11, ground := Ground.guard }], guard := some (11, false) }) (v := ?_) rfl (by kernel_rfl) (by kernel_rfl) (by kernel_rfl) (fun _ _ _ h => h) (Or.inl ⟨by rfl, ?_⟩) (by assumption) ?_
            rotate_left
            · (intro w hSw; (try dsimp only at hSw); go_simp) <;> with_reducible rfl
            try simp only [Act.put, List.setIfInBounds_toArray, List.set_cons_zero, List.set_cons_succ]
            refine wpAnyH_ready (rs := [13]) (by kernel_rfl) (by simp) ?_
            refine AllReadyH.cons (o := { dst := some 81, op := Op.call { callee := Callee.value (Operand.func 15), args := #[Operand.tmp 80], argTypes := #[24] }, type := 33, pos := "law.go:480", after := #[{ on := 12, ground := Ground.data }, { on := 11, ground := Ground.chain }, { on := 11, ground := Ground.guard }], guard := some (11, false) }) rfl (fun K hK => ?_) AllReadyH.nil
            go_simp
            refine Calls.mono ((HSt.out _ HKc.out).2.2.2.2.1) ?_
            rintro e wd ⟨rfl, hwc⟩
            have HKd : Hid (Kept wo wd (fun _ => False)) := by rw [hwc]; exact HKc.out
            clear hHeld HKc hwc
            have HKc := HKd
            clear HKd
            refine hK.out _ _ (HSt.out _ HKc.out).1 (fun hHeld => ?_)
            clear hK K
            refine wpAnyH_take (i := 18) (oi := { dst := some 86, op := Op.binOp BinOp.neq 33 (Operand.tmp 81) (Operand.tmp 85) 33, type := 4, pos := "law.go:480", after := #[{ on := 13, ground := Ground.data }, { on := 17, ground := Ground.data }, { on := 11, ground := Ground.guard }], guard := some (11, false) }) (v := ?_) rfl (by kernel_rfl) (by kernel_rfl) (by kernel_rfl) (fun _ _ _ h => h) (Or.inl ⟨by rfl, ?_⟩) (by assumption) ?_
            rotate_left
            · (intro w hSw; (try dsimp only at hSw); go_simp) <;> with_reducible rfl
            try simp only [Act.put, List.setIfInBounds_toArray, List.set_cons_zero, List.set_cons_succ]
            refine wpAnyH_take (i := 19) (oi := { dst := some 87, op := Op.pick (Operand.tmp 79) (Operand.const (Value.bool true)) (Operand.tmp 86), type := 4, pos := "law.go:480", after := #[{ on := 11, ground := Ground.data }, { on := 18, ground := Ground.data }], guard := none }) (v := ?_) rfl (by kernel_rfl) (by kernel_rfl) (by kernel_rfl) (fun _ _ _ h => h) (Or.inl ⟨by rfl, ?_⟩) (by assumption) ?_
            rotate_left
            · (intro w hSw; (try dsimp only at hSw); go_simp) <;> with_reducible rfl
            try simp only [Act.put, List.setIfInBounds_toArray, List.set_cons_zero, List.set_cons_succ]
            refine wpAnyH_take (i := 20) (oi := { dst := some 88, op := Op.move (Operand.tmp 87), type := 4, pos := "law.go:480", after := #[{ on := 19, ground := Ground.data }, { on := 13, ground := Ground.chain }], guard := none }) (v := ?_) rfl (by kernel_rfl) (by kernel_rfl) (by kernel_rfl) (fun _ _ _ h => h) (Or.inl ⟨by rfl, ?_⟩) (by assumption) ?_
            rotate_left
            · (intro w hSw; (try dsimp only at hSw); go_simp) <;> with_reducible rfl
            try simp only [Act.put, List.setIfInBounds_toArray, List.set_cons_zero, List.set_cons_succ]
            refine wpAnyH_take (i := 21) (oi := { dst := some 89, op := Op.move (Operand.tmp 6), type := 24, pos := "law.go:480", after := #[{ on := 20, ground := Ground.guard }], guard := some (20, false) }) (v := ?_) rfl (by kernel_rfl) (by kernel_rfl) (by kernel_rfl) (fun _ _ _ h => h) (Or.inl ⟨by rfl, ?_⟩) (by assumption) ?_
            rotate_left
            · (intro w hSw; (try dsimp only at hSw); go_simp) <;> with_reducible rfl
            try simp only [Act.put, List.setIfInBounds_toArray, List.set_cons_zero, List.set_cons_succ]
            refine wpAnyH_take (i := 23) (oi := { dst := some 91, op := Op.move (Operand.tmp 10), type := 30, pos := "law.go:480", after := #[{ on := 20, ground := Ground.guard }], guard := some (20, false) }) (v := ?_) rfl (by kernel_rfl) (by kernel_rfl) (by kernel_rfl) (fun _ _ _ h => h) (Or.inl ⟨by rfl, ?_⟩) (by assumption) ?_
            rotate_left
            · (intro w hSw; (try dsimp only at hSw); go_simp) <;> with_reducible rfl
            try simp only [Act.put, List.setIfInBounds_toArray, List.set_cons_zero, List.set_cons_succ]
            refine wpAnyH_ready (rs := [22]) (by kernel_rfl) (by simp) ?_
            refine AllReadyH.cons (o := { dst := some 90, op := Op.call { callee := Callee.value (Operand.func 16), args := #[Operand.tmp 89], argTypes := #[24] }, type := 33, pos := "law.go:480", after := #[{ on := 21, ground := Ground.data }, { on := 20, ground := Ground.chain }, { on := 20, ground := Ground.guard }], guard := some (20, false) }) rfl (fun K hK => ?_) AllReadyH.nil
            go_simp
            refine Calls.mono ((HSt.out _ HKc.out).2.2.2.2.2.1) ?_
            rintro e we ⟨rfl, hwc⟩
            have HKd : Hid (Kept wo we (fun _ => False)) := by rw [hwc]; exact HKc.out
            clear hHeld HKc hwc
            have HKc := HKd
            clear HKd
            refine hK.out _ _ (HSt.out _ HKc.out).1 (fun hHeld => ?_)
            clear hK K
            refine wpAnyH_ready (rs := [24]) (by kernel_rfl) (by simp) ?_
            refine AllReadyH.cons (o := { dst := some 92, op := Op.call { callee := Callee.value (Operand.func 17), args := #[Operand.tmp 91], argTypes := #[30] }, type := 33, pos := "law.go:480", after := #[{ on := 23, ground := Ground.data }, { on := 22, ground := Ground.chain }, { on := 20, ground := Ground.guard }], guard := some (20, false) }) rfl (fun K hK => ?_) AllReadyH.nil
            go_simp
            refine Calls.mono ((HSt.out _ HKc.out).2.2.2.2.2.2) ?_
            rintro e wf ⟨rfl, n0, hwc⟩
            have HKd : Hid (Kept wo wf (fun _ => False)) := by rw [hwc]; exact HKc.out.drewN n0
            clear hHeld HKc hwc
            have HKc := HKd
            clear HKd
            refine hK.out _ _ (HSt.out _ HKc.out).1 (fun hHeld => ?_)
            clear hK K
            refine wpAnyH_take (i := 25) (oi := { dst := some 93, op := Op.binOp BinOp.neq 33 (Operand.tmp 90) (Operand.tmp 92) 33, type := 4, pos := "law.go:480", after := #[{ on := 22, ground := Ground.data }, { on := 24, ground := Ground.data }, { on := 20, ground := Ground.guard }], guard := some (20, false) }) (v := ?_) rfl (by kernel_rfl) (by kernel_rfl) (by kernel_rfl) (fun _ _ _ h => h) (Or.inl ⟨by rfl, ?_⟩) (by assumption) ?_
            rotate_left
            · (intro w hSw; (try dsimp only at hSw); go_simp) <;> with_reducible rfl
            try simp only [Act.put, List.setIfInBounds_toArray, List.set_cons_zero, List.set_cons_succ]
            refine wpAnyH_take (i := 26) (oi := { dst := some 94, op := Op.pick (Operand.tmp 88) (Operand.const (Value.bool true)) (Operand.tmp 93), type := 4, pos := "law.go:480", after := #[{ on := 20, ground := Ground.data }, { on := 25, ground := Ground.data }], guard := none }) (v := ?_) rfl (by kernel_rfl) (by kernel_rfl) (by kernel_rfl) (fun _ _ _ h => h) (Or.inl ⟨by rfl, ?_⟩) (by assumption) ?_
            rotate_left
            · (intro w hSw; (try dsimp only at hSw); go_simp) <;> with_reducible rfl
            try simp only [Act.put, List.setIfInBounds_toArray, List.set_cons_zero, List.set_cons_succ]
            refine wpAnyH_done (by kernel_rfl) ?_ _
            clear hHeld HSt
            have HPf : Hid (PG w wf bs [] X F g1 gd v1' vd (.slice l1 l2 l3) (.slice m1 m2 m3) (.slice none 0 0) pk) := HP.out.later HKc.out
            clear HKc HP
            go_wp2_with fail
            refine (addTexts_any wf.heap.size nilB [] w.heap.size l1 l2 l3 _ ⟨heap_alloc_new _ _, World.ownsRow_nil _ _ _ _⟩ (by simp) (by have := HPf.out.below.size; simp; omega)).mono ?_
            rintro e wg ⟨rfl, tv, hbg, kg, _⟩
            have hfg : Kept wf wg (fun _ => False) := kept_bag rfl kg (fun k e => by simp [Value.ownBlock] at e)
            have HPg : Hid (PG w wg bs [] X F g1 gd v1' vd (.slice l1 l2 l3) (.slice m1 m2 m3) (.slice none 0 0) pk) := HPf.out.later hfg
            have HBg : Hid (BagTx wg wf.heap.size tv [.slice l1 l2 l3] w.heap.size) := hbg
            clear hbg kg hfg HPf
            go_wp2_with fail
            refine (bagApart_tx wf.heap.size w.heap.size tv [⟨.slice l1 l2 l3, ([] : List (List Int)).length⟩] (fun _ => txV []) wg HBg.out (fun j hj => by simp at hj; subst hj; exact row_down HPg.out.l (Nat.zero_le _)) (apart_one _ _) (by simp) (fun j hj => by simp at hj; subst hj; simp only [List.getElem_cons_zero]; omega) (tab_same H.out.2.2 (HPg.out.below.block _ hg0)) (Nat.lt_of_lt_of_le hg0 HPg.out.below.size) (fun hb => by have := row_base HPg.out.l (blk_one hb); omega)).mono ?_
            rintro e wh ⟨rfl, kh, Xs, hrh⟩
            have HPh : Hid (wh.ownsRow 0 9 1 (.slice l1 l2 l3) ([] : List (List Int)).length (Xs 0) ∧ wh.ownsRow w.heap.size 9 1 (.slice m1 m2 m3) ([] : List (List Int)).length (txV []) ∧ wh.ownsRow w.heap.size 9 1 (.slice none 0 0) ([] : List (List Int)).length (txV []) ∧ (∀ k, (Value.slice l1 l2 l3).ownBlock = some k → w.heap.size ≤ k) ∧ (∀ k, (Value.slice l1 l2 l3).ownBlock = some k → (Value.slice m1 m2 m3).ownBlock ≠ some k) ∧ Below w.heap.size w wh) :=
              ⟨hrh 0 (by simp), row_kept HPg.out.m kh (fun k e hb => HPg.out.lm k (blk_one hb) e), row_kept HPg.out.t kh (fun k e hb => HPg.out.lt k (blk_one hb) e), fun k e => row_base HPg.out.l e, HPg.out.lm, HPg.out.below.trans (kh.below HPg.out.below.size (fun k hb => row_base HPg.out.l (blk_one hb)))⟩
            clear hrh kh HBg HPg
            go_wp2_with fail
            refine (eqTexts_is _ _ _ _ _ wh HPh.out.2.1 HPh.out.2.2.1 (by omega)).mono ?_
            rintro e wi ⟨rfl, n0, hwi⟩
            have hki : Kept wh wi (fun _ => False) := by rw [hwi]; exact (Kept.refl wh _).drewN n0
            have HPi : Hid (wi.ownsRow 0 9 1 (.slice l1 l2 l3) ([] : List (List Int)).length (Xs 0) ∧ wi.ownsRow w.heap.size 9 1 (.slice m1 m2 m3) ([] : List (List Int)).length (txV []) ∧ (∀ k, (Value.slice l1 l2 l3).ownBlock = some k → w.heap.size ≤ k) ∧ (∀ k, (Value.slice l1 l2 l3).ownBlock = some k → (Value.slice m1 m2 m3).ownBlock ≠ some k) ∧ Below w.heap.size w wi) :=
              ⟨row_kept HPh.out.1 hki (fun _ _ h => h), row_kept HPh.out.2.1 hki (fun _ _ h => h), HPh.out.2.2.2.1, HPh.out.2.2.2.2.1, HPh.out.2.2.2.2.2.trans (hki.below HPh.out.2.2.2.2.2.size (fun _ h => h.elim))⟩
            clear hki hwi HPh
            go_wp2_with fail
            refine (addTexts_any wi.heap.size nilB [] w.heap.size l1 l2 l3 _ ⟨heap_alloc_new _ _, World.ownsRow_nil _ _ _ _⟩ (by simp) (by have := HPi.out.2.2.2.2.size; simp; omega)).mono ?_
            rintro e wj ⟨rfl, tj, hbj, kj, nj⟩
            have HBj : Hid (BagTx wj wi.heap.size tj [.slice l1 l2 l3] w.heap.size ∧ Kept wi wj (fun _ => False) ∧ ∀ k, tj.ownBlock = some k → wi.heap.size ≤ k) := ⟨hbj, kept_bag rfl kj (fun k e => by simp [Value.ownBlock] at e), fun k e => by
              rcases nj with h | ⟨q, h, hq⟩
              · rw [h] at e; simp [Value.ownBlock] at e
              · rw [h] at e
                simp at e hq
                omega⟩
            clear hbj kj nj
            go_wp2_with fail
            refine (addTexts_any wi.heap.size tj [.slice l1 l2 l3] w.heap.size m1 m2 m3 _ HBj.out.1 (by simp) (by have := HPi.out.2.2.2.2.size; have := HBj.out.2.1.size; omega)).mono ?_
            rintro e wk ⟨rfl, tk, hbk, kk2, _⟩
            have hik : Kept wi wk (fun _ => False) := HBj.out.2.1.trans kk2 (fun k hk e => by
              rcases e with e | e
              · omega
              · have := HBj.out.2.2 k e; omega)
            have HPk : Hid (BagTx wk wi.heap.size tk [.slice l1 l2 l3, .slice m1 m2 m3] w.heap.size ∧ wk.ownsRow 0 9 1 (.slice l1 l2 l3) ([] : List (List Int)).length (Xs 0) ∧ wk.ownsRow w.heap.size 9 1 (.slice m1 m2 m3) ([] : List (List Int)).length (txV []) ∧ (∀ k, (Value.slice l1 l2 l3).ownBlock = some k → w.heap.size ≤ k) ∧ (∀ k, (Value.slice l1 l2 l3).ownBlock = some k → (Value.slice m1 m2 m3).ownBlock ≠ some k) ∧ Below w.heap.size w wk) :=
              ⟨hbk, row_kept HPi.out.1 hik (fun _ _ h => h), row_kept HPi.out.2.1 hik (fun _ _ h => h), HPi.out.2.2.1, HPi.out.2.2.2.1, HPi.out.2.2.2.2.trans (hik.below HPi.out.2.2.2.2.size (fun _ h => h.elim))⟩
            clear hbk kk2 hik HBj HPi
            go_wp2_with fail
            refine (bagApart_tx wi.heap.size w.heap.size tk [⟨.slice l1 l2 l3, ([] : List (List Int)).length⟩, ⟨.slice m1 m2 m3, ([] : List (List Int)).length⟩] (fun j => if j = 0 then Xs 0 else txV []) wk HPk.out.1 (fun j hj => by
              simp at hj
              obtain rfl | rfl : j = 0 ∨ j = 1 := by omega
              · exact HPk.out.2.1
              · exact row_down HPk.out.2.2.1 (Nat.zero_le _)) (apart_two HPk.out.2.2.2.2.1) (by simp) (fun j hj => by
              simp at hj
              obtain rfl | rfl : j = 0 ∨ j = 1 := by omega
              · simp only [List.getElem_cons_zero]; omega
              · simp only [List.getElem_cons_succ, List.getElem_cons_zero]; omega) (tab_same H.out.2.2 (HPk.out.2.2.2.2.2.block _ hg0)) (Nat.lt_of_lt_of_le hg0 HPk.out.2.2.2.2.2.size) (fun hb => by
              rcases blk_two hb with e | e
              · have := HPk.out.2.2.2.1 _ e; omega
              · have := row_base HPk.out.2.2.1 e; omega)).mono ?_
            rintro e wl ⟨rfl, kl, _⟩
            have HE : Hid (Below w.heap.size w wl) := HPk.out.2.2.2.2.2.trans (kl.below HPk.out.2.2.2.2.2.size (fun k hb => by
              rcases blk_two hb with e | e
              · exact HPk.out.2.2.2.1 _ e
              · exact row_base HPk.out.2.2.1 e))
            clear kl HPk
            go_wp2
            go_ret
            exact ⟨rfl, HE.out⟩
          · have d1 : decide ((k : Int) < C.out) = false := by simp; omega
            obtain ⟨E0, hE0⟩ : ∃ E0 : Int, E0 = (if (F : Int) ≠ 0 then F else if X = [] then 0 else 13) := ⟨_, rfl⟩
            have HSt : Hid (∀ V, Kept wo V (fun _ => False) → V.cell? ⟨gd, 2, none⟩ = some (.int .i64 F) ∧ (Calls Tryz.prog 12 #[.slice l1 l2 l3, .slice none 0 0] V fun e w' => e = .returned (.bool true) ∧ ∃ n, w' = V.drewN n) ∧ (Calls Tryz.prog 13 #[.pointer (some ⟨g1, 0, none⟩)] V fun e w' => e = .returned (.int .i64 (X.length : Int)) ∧ w' = V) ∧ (Calls Tryz.prog 14 #[.pointer (some ⟨gd, 0, none⟩)] V fun e w' => e = .returned (.int .i64 (X.length : Int)) ∧ ∃ n, w' = V.drewN n) ∧ (Calls Tryz.prog 15 #[.pointer (some ⟨g1, 0, none⟩)] V fun e w' => e = .returned (.int .i64 F) ∧ w' = V) ∧ (Calls Tryz.prog 16 #[.pointer (some ⟨g1, 0, none⟩)] V fun e w' => e = .returned (.int .i64 E0) ∧ w' = V) ∧ (Calls Tryz.prog 17 #[.pointer (some ⟨gd, 0, none⟩)] V fun e w' => e = .returned (.int .i64 E0) ∧ ∃ n, w' = V.drewN n)) := fun V hk => by
              have hp := HP.out.later hk
              have q1 := qLeft_any gd vd bs pk F V hp.d
              have q2 := qEnd_any gd vd bs pk F V hp.d
              have q3 := rEnd_any g1 v1' X F V hp.r
              rw [hp.at'] at q1 q2
              rw [← hE0] at q2 q3
              exact ⟨hp.d.c2, eqTexts_is _ _ _ _ _ V hp.l hp.t (by omega), rLeft_any g1 v1' X F V hp.r, q1, rErr_any g1 v1' X F V hp.r, q3, q2⟩
            have HKc : Hid (Kept wo wo.drew (fun _ => False)) := (Kept.refl wo _).drewN 1
            have hc2 := HP.out.d.c2
            clear hE0
            go_upto_region 19 with fail
            clear hc2
            refine wp_region_held_drew (S := fun V' => V'.cell? ⟨gd, 2, none⟩ = some (.int .i64 F)) (by kernel_rfl) ?_ (fun hHeld => ?_)
            · exact (HSt.out _ HKc.out).1
            refine wpAnyH_take (i := 0) (oi := { dst := some 68, op := Op.move (Operand.tmp 8), type := 27, pos := "law.go:480", after := #[], guard := none }) (v := ?_) rfl (by kernel_rfl) (by kernel_rfl) (by kernel_rfl) (fun _ _ _ h => h) (Or.inl ⟨by rfl, ?_⟩) (by assumption) ?_
            rotate_left
            · (intro w hSw; (try dsimp only at hSw); go_simp) <;> with_reducible rfl
            try simp only [Act.put, List.setIfInBounds_toArray, List.set_cons_zero, List.set_cons_succ]
            refine wpAnyH_take (i := 1) (oi := { dst := some 69, op := Op.move (Operand.tmp 12), type := 27, pos := "law.go:480", after := #[], guard := none }) (v := ?_) rfl (by kernel_rfl) (by kernel_rfl) (by kernel_rfl) (fun _ _ _ h => h) (Or.inl ⟨by rfl, ?_⟩) (by assumption) ?_
            rotate_left
            · (intro w hSw; (try dsimp only at hSw); go_simp) <;> with_reducible rfl
            try simp only [Act.put, List.setIfInBounds_toArray, List.set_cons_zero, List.set_cons_succ]
            refine wpAnyH_ready (rs := [2]) (by kernel_rfl) (by simp) ?_
            refine AllReadyH.cons (o := { dst := some 70, op := Op.call { callee := Callee.value (Operand.func 12), args := #[Operand.tmp 68, Operand.tmp 69], argTypes := #[27, 27] }, type := 4, pos := "law.go:480", after := #[{ on := 0, ground := Ground.data }, { on := 1, ground := Ground.data }], guard := none }) rfl (fun K hK => ?_) AllReadyH.nil
            go_simp
            refine Calls.mono ((HSt.out _ HKc.out).2.1) ?_
            rintro e wa ⟨rfl, n0, hwc⟩
            have HKd : Hid (Kept wo wa (fun _ => False)) := by rw [hwc]; exact HKc.out.drewN n0
            clear hHeld HKc hwc
            have HKc := HKd
            clear HKd
            refine hK.out _ _ (HSt.out _ HKc.out).1 (fun hHeld => ?_)
            clear hK K
            refine wpAnyH_take (i := 3) (oi := { dst := some 71, op := Op.unOp UnOp.not 4 (Operand.tmp 70), type := 4, pos := "law.go:480", after := #[{ on := 2, ground := Ground.data }], guard := none }) (v := ?_) rfl (by kernel_rfl) (by kernel_rfl) (by kernel_rfl) (fun _ _ _ h => h) (Or.inl ⟨by rfl, ?_⟩) (by assumption) ?_
            rotate_left
            · (intro w hSw; (try dsimp only at hSw); go_simp) <;> with_reducible rfl
            try simp only [Act.put, List.setIfInBounds_toArray, List.set_cons_zero, List.set_cons_succ]
            refine wpAnyH_take (i := 4) (oi := { dst := some 72, op := Op.move (Operand.tmp 71), type := 4, pos := "law.go:480", after := #[{ on := 3, ground := Ground.data }, { on := 2, ground := Ground.chain }], guard := none }) (v := ?_) rfl (by kernel_rfl) (by kernel_rfl) (by kernel_rfl) (fun _ _ _ h => h) (Or.inl ⟨by rfl, ?_⟩) (by assumption) ?_
            rotate_left
            · (intro w hSw; (try dsimp only at hSw); go_simp) <;> with_reducible rfl
            try simp only [Act.put, List.setIfInBounds_toArray, List.set_cons_zero, List.set_cons_succ]
            refine wpAnyH_take (i := 5) (oi := { dst := some 73, op := Op.move (Operand.tmp 6), type := 24, pos := "law.go:480", after := #[{ on := 4, ground := Ground.guard }], guard := some (4, false) }) (v := ?_) rfl (by kernel_rfl) (by kernel_rfl) (by kernel_rfl) (fun _ _ _ h => h) (Or.inl ⟨by rfl, ?_⟩) (by assumption) ?_
            rotate_left
            · (intro w hSw; (try dsimp only at hSw); go_simp) <;> with_reducible rfl
            try simp only [Act.put, List.setIfInBounds_toArray, List.set_cons_zero, List.set_cons_succ]
            refine wpAnyH_take (i := 7) (oi := { dst := some 75, op := Op.move (Operand.tmp 10), type := 30, pos := "law.go:480", after := #[{ on := 4, ground := Ground.guard }], guard := some (4, false) }) (v := ?_) rfl (by kernel_rfl) (by kernel_rfl) (by kernel_rfl) (fun _ _ _ h => h) (Or.inl ⟨by rfl, ?_⟩) (by assumption) ?_
            rotate_left
            · (intro w hSw; (try dsimp only at hSw); go_simp) <;> with_reducible rfl
            try simp only [Act.put, List.setIfInBounds_toArray, List.set_cons_zero, List.set_cons_succ]
            refine wpAnyH_ready (rs := [6]) (by kernel_rfl) (by simp) ?_
            refine AllReadyH.cons (o := { dst := some 74, op := Op.call { callee := Callee.value (Operand.func 13), args := #[Operand.tmp 73], argTypes := #[24] }, type := 3, pos := "law.go:480", after := #[{ on := 5, ground := Ground.data }, { on := 4, ground := Ground.chain }, { on := 4, ground := Ground.guard }], guard := some (4, false) }) rfl (fun K hK => ?_) AllReadyH.nil
            go_simp
            refine Calls.mono ((HSt.out _ HKc.out).2.2.1) ?_
            rintro e wb ⟨rfl, hwc⟩
            have HKd : Hid (Kept wo wb (fun _ => False)) := by rw [hwc]; exact HKc.out
            clear hHeld HKc hwc
            have HKc := HKd
            clear HKd
            refine hK.out _ _ (HSt.out _ HKc.out).1 (fun hHeld => ?_)
            clear hK K
            refine wpAnyH_ready (rs := [8]) (by kernel_rfl) (by simp) ?_
            refine AllReadyH.cons (o := { dst := some 76, op := Op.call { callee := Callee.value (Operand.func 14), args := #[Operand.tmp 75], argTypes := #[30] }, type := 3, pos := "law.go:480", after := #[{ on := 7, ground := Ground.data }, { on := 6, ground := Ground.chain }, { on := 4, ground := Ground.guard }], guard := some (4, false) }) rfl (fun K hK => ?_) AllReadyH.nil
            go_simp
            refine Calls.mono ((HSt.out _ HKc.out).2.2.2.1) ?_
            rintro e wc ⟨rfl, n0, hwc⟩
            have HKd : Hid (Kept wo wc (fun _ => False)) := by rw [hwc]; exact HKc.out.drewN n0
            clear hHeld HKc hwc
            have HKc := HKd
            clear HKd
            refine hK.out _ _ (HSt.out _ HKc.out).1 (fun hHeld => ?_)
            clear hK K
            refine wpAnyH_take (i := 9) (oi := { dst := some 77, op := Op.binOp BinOp.neq 3 (Operand.tmp 74) (Operand.tmp 76) 3, type := 4, pos := "law.go:480", after := #[{ on := 6, ground := Ground.data }, { on := 8, ground := Ground.data }, { on := 4, ground := Ground.guard }], guard := some (4, false) }) (v := ?_) rfl (by kernel_rfl) (by kernel_rfl) (by kernel_rfl) (fun _ _ _ h => h) (Or.inl ⟨by rfl, ?_⟩) (by assumption) ?_
            rotate_left
            · (intro w hSw; (try dsimp only at hSw); go_simp) <;> with_reducible rfl
            try simp only [Act.put, List.setIfInBounds_toArray, List.set_cons_zero, List.set_cons_succ]
            refine wpAnyH_take (i := 10) (oi := { dst := some 78, op := Op.pick (Operand.tmp 72) (Operand.const (Value.bool true)) (Operand.tmp 77), type := 4, pos := "law.go:480", after := #[{ on := 4, ground := Ground.data }, { on := 9, ground := Ground.data }], guard := none }) (v := ?_) rfl (by kernel_rfl) (by kernel_rfl) (by kernel_rfl) (fun _ _ _ h => h) (Or.inl ⟨by rfl, ?_⟩) (by assumption) ?_
            rotate_left
            · (intro w hSw; (try dsimp only at hSw); go_simp) <;> with_reducible rfl
            try simp only [Act.put, List.setIfInBounds_toArray, List.set_cons_zero, List.set_cons_succ]
            refine wpAnyH_take (i := 11) (oi := { dst := some 79, op := Op.move (Operand.tmp 78), type := 4, pos := "law.go:480", after := #[{ on := 10, ground := Ground.data }, { on := 8, ground := Ground.chain }], guard := none }) (v := ?_) rfl (by kernel_rfl) (by kernel_rfl) (by kernel_rfl) (fun _ _ _ h => h) (Or.inl ⟨by rfl, ?_⟩) (by assumption) ?_
            rotate_left
            · (intro w hSw; (try dsimp only at hSw); go_simp) <;> with_reducible rfl
            try simp only [Act.put, List.setIfInBounds_toArray, List.set_cons_zero, List.set_cons_succ]
            refine wpAnyH_take (i := 12) (oi := { dst := some 80, op := Op.move (Operand.tmp 6), type := 24, pos := "law.go:480", after := #[{ on := 11, ground := Ground.guard }], guard := some (11, false) }) (v := ?_) rfl (by kernel_rfl) (by kernel_rfl) (by kernel_rfl) (fun _ _ _ h => h) (Or.inl ⟨by rfl, ?_⟩) (by assumption) ?_
            rotate_left
            · (intro w hSw; (try dsimp only at hSw); go_simp) <;> with_reducible rfl
            try simp only [Act.put, List.setIfInBounds_toArray, List.set_cons_zero, List.set_cons_succ]
            refine wpAnyH_take (i := 14) (oi := { dst := some 82, op := Op.move (Operand.tmp 10), type := 30, pos := "law.go:480", after := #[{ on := 11, ground := Ground.guard }], guard := some (11, false) }) (v := ?_) rfl (by kernel_rfl) (by kernel_rfl) (by kernel_rfl) (fun _ _ _ h => h) (Or.inl ⟨by rfl, ?_⟩) (by assumption) ?_
            rotate_left
            · (intro w hSw; (try dsimp only at hSw); go_simp) <;> with_reducible rfl
            try simp only [Act.put, List.setIfInBounds_toArray, List.set_cons_zero, List.set_cons_succ]
            refine wpAnyH_take (i := 15) (oi := { dst := some 83, op := Op.nilCheck (Operand.tmp 82), type := 0, pos := "law.go:480", after := #[{ on := 14, ground := Ground.data }, { on := 11, ground := Ground.guard }], guard := some (11, false) }) (v := ?_) rfl (by kernel_rfl) (by kernel_rfl) (by kernel_rfl) (fun _ _ _ h => h) (Or.inl ⟨by rfl, ?_⟩) (by assumption) ?_
            rotate_left
            · (intro w hSw; (try dsimp only at hSw); go_simp) <;> with_reducible rfl
            try simp only [Act.put, List.setIfInBounds_toArray, List.set_cons_zero, List.set_cons_succ]
            refine wpAnyH_take (i := 16) (oi := { dst := some 84, op := Op.fieldAddr 35 (Operand.tmp 83) 2, type := 0, pos := "law.go:480", after := #[{ on := 15, ground := Ground.data }, { on := 11, ground := Ground.guard }], guard := some (11, false) }) (v := ?_) rfl (by kernel_rfl) (by kernel_rfl) (by kernel_rfl) (fun _ _ _ h => h) (Or.inl ⟨by rfl, ?_⟩) (by assumption) ?_
            rotate_left
            · (intro w hSw; (try dsimp only at hSw); go_simp) <;> with_reducible rfl
            try simp only [Act.put, List.setIfInBounds_toArray, List.set_cons_zero, List.set_cons_succ]
            refine wpAnyH_take (i := 17) (oi := { dst := some 85, op := Op.load 33 (Operand.tmp 84), type := 33, pos := "law.go:480", after := #[{ on := 16, ground := Ground.data }, { on := 11, ground := Ground.guard }], guard := some (11, false) }) (v := ?_) rfl (by kernel_rfl) (by kernel_rfl) (by kernel_rfl) (fun _ _ _ h => h) (Or.inl ⟨by rfl, ?_⟩) (by assumption) ?_
            rotate_left
            · (intro w hSw; (try dsimp only at hSw); go_simp) <;> with_reducible rfl
            try simp only [Act.put, List.setIfInBounds_toArray, List.set_cons_zero, List.set_cons_succ]
            refine wpAnyH_ready (rs := [13]) (by kernel_rfl) (by simp) ?_
            refine AllReadyH.cons (o := { dst := some 81, op := Op.call { callee := Callee.value (Operand.func 15), args := #[Operand.tmp 80], argTypes := #[24] }, type := 33, pos := "law.go:480", after := #[{ on := 12, ground := Ground.data }, { on := 11, ground := Ground.chain }, { on := 11, ground := Ground.guard }], guard := some (11, false) }) rfl (fun K hK => ?_) AllReadyH.nil
            go_simp
            refine Calls.mono ((HSt.out _ HKc.out).2.2.2.2.1) ?_
            rintro e wd ⟨rfl, hwc⟩
            have HKd : Hid (Kept wo wd (fun _ => False)) := by rw [hwc]; exact HKc.out
            clear hHeld HKc hwc
            have HKc := HKd
            clear HKd
            refine hK.out _ _ (HSt.out _ HKc.out).1 (fun hHeld => ?_)
            clear hK K
            refine wpAnyH_take (i := 18) (oi := { dst := some 86, op := Op.binOp BinOp.neq 33 (Operand.tmp 81) (Operand.tmp 85) 33, type := 4, pos := "law.go:480", after := #[{ on := 13, ground := Ground.data }, { on := 17, ground := Ground.data }, { on := 11, ground := Ground.guard }], guard := some (11, false) }) (v := ?_) rfl (by kernel_rfl) (by kernel_rfl) (by kernel_rfl) (fun _ _ _ h => h) (Or.inl ⟨by rfl, ?_⟩) (by assumption) ?_
            rotate_left
            · (intro w hSw; (try dsimp only at hSw); go_simp) <;> with_reducible rfl
            try simp only [Act.put, List.setIfInBounds_toArray, List.set_cons_zero, List.set_cons_succ]
            refine wpAnyH_take (i := 19) (oi := { dst := some 87, op := Op.pick (Operand.tmp 79) (Operand.const (Value.bool true)) (Operand.tmp 86), type := 4, pos := "law.go:480", after := #[{ on := 11, ground := Ground.data }, { on := 18, ground := Ground.data }], guard := none }) (v := ?_) rfl (by kernel_rfl) (by kernel_rfl) (by kernel_rfl) (fun _ _ _ h => h) (Or.inl ⟨by rfl, ?_⟩) (by assumption) ?_
            rotate_left
            · (intro w hSw; (try dsimp only at hSw); go_simp) <;> with_reducible rfl
            try simp only [Act.put, List.setIfInBounds_toArray, List.set_cons_zero, List.set_cons_succ]
            refine wpAnyH_take (i := 20) (oi := { dst := some 88, op := Op.move (Operand.tmp 87), type := 4, pos := "law.go:480", after := #[{ on := 19, ground := Ground.data }, { on := 13, ground := Ground.chain }], guard := none }) (v := ?_) rfl (by kernel_rfl) (by kernel_rfl) (by kernel_rfl) (fun _ _ _ h => h) (Or.inl ⟨by rfl, ?_⟩) (by assumption) ?_
            rotate_left
            · (intro w hSw; (try dsimp only at hSw); go_simp) <;> with_reducible rfl
            try simp only [Act.put, List.setIfInBounds_toArray, List.set_cons_zero, List.set_cons_succ]
            refine wpAnyH_take (i := 21) (oi := { dst := some 89, op := Op.move (Operand.tmp 6), type := 24, pos := "law.go:480", after := #[{ on := 20, ground := Ground.guard }], guard := some (20, false) }) (v := ?_) rfl (by kernel_rfl) (by kernel_rfl) (by kernel_rfl) (fun _ _ _ h => h) (Or.inl ⟨by rfl, ?_⟩) (by assumption) ?_
            rotate_left
            · (intro w hSw; (try dsimp only at hSw); go_simp) <;> with_reducible rfl
            try simp only [Act.put, List.setIfInBounds_toArray, List.set_cons_zero, List.set_cons_succ]
            refine wpAnyH_take (i := 23) (oi := { dst := some 91, op := Op.move (Operand.tmp 10), type := 30, pos := "law.go:480", after := #[{ on := 20, ground := Ground.guard }], guard := some (20, false) }) (v := ?_) rfl (by kernel_rfl) (by kernel_rfl) (by kernel_rfl) (fun _ _ _ h => h) (Or.inl ⟨by rfl, ?_⟩) (by assumption) ?_
            rotate_left
            · (intro w hSw; (try dsimp only at hSw); go_simp) <;> with_reducible rfl
            try simp only [Act.put, List.setIfInBounds_toArray, List.set_cons_zero, List.set_cons_succ]
            refine wpAnyH_ready (rs := [22]) (by kernel_rfl) (by simp) ?_
            refine AllReadyH.cons (o := { dst := some 90, op := Op.call { callee := Callee.value (Operand.func 16), args := #[Operand.tmp 89], argTypes := #[24] }, type := 33, pos := "law.go:480", after := #[{ on := 21, ground := Ground.data }, { on := 20, ground := Ground.chain }, { on := 20, ground := Ground.guard }], guard := some (20, false) }) rfl (fun K hK => ?_) AllReadyH.nil
            go_simp
            refine Calls.mono ((HSt.out _ HKc.out).2.2.2.2.2.1) ?_
            rintro e we ⟨rfl, hwc⟩
            have HKd : Hid (Kept wo we (fun _ => False)) := by rw [hwc]; exact HKc.out
            clear hHeld HKc hwc
            have HKc := HKd
            clear HKd
            refine hK.out _ _ (HSt.out _ HKc.out).1 (fun hHeld => ?_)
            clear hK K
            refine wpAnyH_ready (rs := [24]) (by kernel_rfl) (by simp) ?_
            refine AllReadyH.cons (o := { dst := some 92, op := Op.call { callee := Callee.value (Operand.func 17), args := #[Operand.tmp 91], argTypes := #[30] }, type := 33, pos := "law.go:480", after := #[{ on := 23, ground := Ground.data }, { on := 22, ground := Ground.chain }, { on := 20, ground := Ground.guard }], guard := some (20, false) }) rfl (fun K hK => ?_) AllReadyH.nil
            go_simp
            refine Calls.mono ((HSt.out _ HKc.out).2.2.2.2.2.2) ?_
            rintro e wf ⟨rfl, n0, hwc⟩
            have HKd : Hid (Kept wo wf (fun _ => False)) := by rw [hwc]; exact HKc.out.drewN n0
            clear hHeld HKc hwc
            have HKc := HKd
            clear HKd
            refine hK.out _ _ (HSt.out _ HKc.out).1 (fun hHeld => ?_)
            clear hK K
            refine wpAnyH_take (i := 25) (oi := { dst := some 93, op := Op.binOp BinOp.neq 33 (Operand.tmp 90) (Operand.tmp 92) 33, type := 4, pos := "law.go:480", after := #[{ on := 22, ground := Ground.data }, { on := 24, ground := Ground.data }, { on := 20, ground := Ground.guard }], guard := some (20, false) }) (v := ?_) rfl (by kernel_rfl) (by kernel_rfl) (by kernel_rfl) (fun _ _ _ h => h) (Or.inl ⟨by rfl, ?_⟩) (by assumption) ?_
            rotate_left
            · (intro w hSw; (try dsimp only at hSw); go_simp) <;> with_reducible rfl
            try simp only [Act.put, List.setIfInBounds_toArray, List.set_cons_zero, List.set_cons_succ]
            refine wpAnyH_take (i := 26) (oi := { dst := some 94, op := Op.pick (Operand.tmp 88) (Operand.const (Value.bool true)) (Operand.tmp 93), type := 4, pos := "law.go:480", after := #[{ on := 20, ground := Ground.data }, { on := 25, ground := Ground.data }], guard := none }) (v := ?_) rfl (by kernel_rfl) (by kernel_rfl) (by kernel_rfl) (fun _ _ _ h => h) (Or.inl ⟨by rfl, ?_⟩) (by assumption) ?_
            rotate_left
            · (intro w hSw; (try dsimp only at hSw); go_simp) <;> with_reducible rfl
            try simp only [Act.put, List.setIfInBounds_toArray, List.set_cons_zero, List.set_cons_succ]
            refine wpAnyH_done (by kernel_rfl) ?_ _
            clear hHeld HSt
            have HPf : Hid (PG w wf bs [] X F g1 gd v1' vd (.slice l1 l2 l3) (.slice m1 m2 m3) (.slice none 0 0) pk) := HP.out.later HKc.out
            clear HKc HP
            go_wp2_with fail
            refine (addTexts_any wf.heap.size nilB [] w.heap.size l1 l2 l3 _ ⟨heap_alloc_new _ _, World.ownsRow_nil _ _ _ _⟩ (by simp) (by have := HPf.out.below.size; simp; omega)).mono ?_
            rintro e wg ⟨rfl, tv, hbg, kg, _⟩
            have hfg : Kept wf wg (fun _ => False) := kept_bag rfl kg (fun k e => by simp [Value.ownBlock] at e)
            have HPg : Hid (PG w wg bs [] X F g1 gd v1' vd (.slice l1 l2 l3) (.slice m1 m2 m3) (.slice none 0 0) pk) := HPf.out.later hfg
            have HBg : Hid (BagTx wg wf.heap.size tv [.slice l1 l2 l3] w.heap.size) := hbg
            clear hbg kg hfg HPf
            go_wp2_with fail
            refine (bagApart_tx wf.heap.size w.heap.size tv [⟨.slice l1 l2 l3, ([] : List (List Int)).length⟩] (fun _ => txV []) wg HBg.out (fun j hj => by simp at hj; subst hj; exact row_down HPg.out.l (Nat.zero_le _)) (apart_one _ _) (by simp) (fun j hj => by simp at hj; subst hj; simp only [List.getElem_cons_zero]; omega) (tab_same H.out.2.2 (HPg.out.below.block _ hg0)) (Nat.lt_of_lt_of_le hg0 HPg.out.below.size) (fun hb => by have := row_base HPg.out.l (blk_one hb); omega)).mono ?_
            rintro e wh ⟨rfl, kh, Xs, hrh⟩
            have HPh : Hid (wh.ownsRow 0 9 1 (.slice l1 l2 l3) ([] : List (List Int)).length (Xs 0) ∧ wh.ownsRow w.heap.size 9 1 (.slice m1 m2 m3) ([] : List (List Int)).length (txV []) ∧ wh.ownsRow w.heap.size 9 1 (.slice none 0 0) ([] : List (List Int)).length (txV []) ∧ (∀ k, (Value.slice l1 l2 l3).ownBlock = some k → w.heap.size ≤ k) ∧ (∀ k, (Value.slice l1 l2 l3).ownBlock = some k → (Value.slice m1 m2 m3).ownBlock ≠ some k) ∧ Below w.heap.size w wh) :=
              ⟨hrh 0 (by simp), row_kept HPg.out.m kh (fun k e hb => HPg.out.lm k (blk_one hb) e), row_kept HPg.out.t kh (fun k e hb => HPg.out.lt k (blk_one hb) e), fun k e => row_base HPg.out.l e, HPg.out.lm, HPg.out.below.trans (kh.below HPg.out.below.size (fun k hb => row_base HPg.out.l (blk_one hb)))⟩
            clear hrh kh HBg HPg
            go_wp2_with fail
            refine (eqTexts_is _ _ _ _ _ wh HPh.out.2.1 HPh.out.2.2.1 (by omega)).mono ?_
            rintro e wi ⟨rfl, n0, hwi⟩
            have hki : Kept wh wi (fun _ => False) := by rw [hwi]; exact (Kept.refl wh _).drewN n0
            have HPi : Hid (wi.ownsRow 0 9 1 (.slice l1 l2 l3) ([] : List (List Int)).length (Xs 0) ∧ wi.ownsRow w.heap.size 9 1 (.slice m1 m2 m3) ([] : List (List Int)).length (txV []) ∧ (∀ k, (Value.slice l1 l2 l3).ownBlock = some k → w.heap.size ≤ k) ∧ (∀ k, (Value.slice l1 l2 l3).ownBlock = some k → (Value.slice m1 m2 m3).ownBlock ≠ some k) ∧ Below w.heap.size w wi) :=
              ⟨row_kept HPh.out.1 hki (fun _ _ h => h), row_kept HPh.out.2.1 hki (fun _ _ h => h), HPh.out.2.2.2.1, HPh.out.2.2.2.2.1, HPh.out.2.2.2.2.2.trans (hki.below HPh.out.2.2.2.2.2.size (fun _ h => h.elim))⟩
            clear hki hwi HPh
            go_wp2_with fail
            refine (addTexts_any wi.heap.size nilB [] w.heap.size l1 l2 l3 _ ⟨heap_alloc_new _ _, World.ownsRow_nil _ _ _ _⟩ (by simp) (by have := HPi.out.2.2.2.2.size; simp; omega)).mono ?_
            rintro e wj ⟨rfl, tj, hbj, kj, nj⟩
            have HBj : Hid (BagTx wj wi.heap.size tj [.slice l1 l2 l3] w.heap.size ∧ Kept wi wj (fun _ => False) ∧ ∀ k, tj.ownBlock = some k → wi.heap.size ≤ k) := ⟨hbj, kept_bag rfl kj (fun k e => by simp [Value.ownBlock] at e), fun k e => by
              rcases nj with h | ⟨q, h, hq⟩
              · rw [h] at e; simp [Value.ownBlock] at e
              · rw [h] at e
                simp at e hq
                omega⟩
            clear hbj kj nj
            go_wp2_with fail
            refine (addTexts_any wi.heap.size tj [.slice l1 l2 l3] w.heap.size m1 m2 m3 _ HBj.out.1 (by simp) (by have := HPi.out.2.2.2.2.size; have := HBj.out.2.1.size; omega)).mono ?_
            rintro e wk ⟨rfl, tk, hbk, kk2, _⟩
            have hik : Kept wi wk (fun _ => False) := HBj.out.2.1.trans kk2 (fun k hk e => by
              rcases e with e | e
              · omega
              · have := HBj.out.2.2 k e; omega)
            have HPk : Hid (BagTx wk wi.heap.size tk [.slice l1 l2 l3, .slice m1 m2 m3] w.heap.size ∧ wk.ownsRow 0 9 1 (.slice l1 l2 l3) ([] : List (List Int)).length (Xs 0) ∧ wk.ownsRow w.heap.size 9 1 (.slice m1 m2 m3) ([] : List (List Int)).length (txV []) ∧ (∀ k, (Value.slice l1 l2 l3).ownBlock = some k → w.heap.size ≤ k) ∧ (∀ k, (Value.slice l1 l2 l3).ownBlock = some k → (Value.slice m1 m2 m3).ownBlock ≠ some k) ∧ Below w.heap.size w wk) :=
              ⟨hbk, row_kept HPi.out.1 hik (fun _ _ h => h), row_kept HPi.out.2.1 hik (fun _ _ h => h), HPi.out.2.2.1, HPi.out.2.2.2.1, HPi.out.2.2.2.2.trans (hik.below HPi.out.2.2.2.2.size (fun _ h => h.elim))⟩
            clear hbk kk2 hik HBj HPi
            go_wp2_with fail
            refine (bagApart_tx wi.heap.size w.heap.size tk [⟨.slice l1 l2 l3, ([] : List (List Int)).length⟩, ⟨.slice m1 m2 m3, ([] : List (List Int)).length⟩] (fun j => if j = 0 then Xs 0 else txV []) wk HPk.out.1 (fun j hj => by
              simp at hj
              obtain rfl | rfl : j = 0 ∨ j = 1 := by omega
              · exact HPk.out.2.1
              · exact row_down HPk.out.2.2.1 (Nat.zero_le _)) (apart_two HPk.out.2.2.2.2.1) (by simp) (fun j hj => by
              simp at hj
              obtain rfl | rfl : j = 0 ∨ j = 1 := by omega
              · simp only [List.getElem_cons_zero]; omega
              · simp only [List.getElem_cons_succ, List.getElem_cons_zero]; omega) (tab_same H.out.2.2 (HPk.out.2.2.2.2.2.block _ hg0)) (Nat.lt_of_lt_of_le hg0 HPk.out.2.2.2.2.2.size) (fun hb => by
              rcases blk_two hb with e | e
              · have := HPk.out.2.2.2.1 _ e; omega
              · have := row_base HPk.out.2.2.1 e; omega)).mono ?_
            rintro e wl ⟨rfl, kl, _⟩
            have HE : Hid (Below w.heap.size w wl) := HPk.out.2.2.2.2.2.trans (kl.below HPk.out.2.2.2.2.2.size (fun k hb => by
              rcases blk_two hb with e | e
              · exact HPk.out.2.2.2.1 _ e
              · exact row_base HPk.out.2.2.1 e))
            clear kl HPk
            go_wp2
            go_ret
            exact ⟨rfl, HE.out⟩
  · have d0 : decide ((67108864 : Int) < (bs.length : Int)) = true := by simp; omega
    go_wp2_with fail
    go_ret
    exact ⟨rfl, HB1.out⟩
end Go.Proofs.YtickndnaejdanaaGreatDoor
