/- GetList of package pack at texts of at most 8 bytes, at any bytes. -/
import Derived.Test.YtickndnaejdanaaGreatDoorGtBJ
import Derived.Test.YtickndnaejdanaaGreatDoorBgEhJ
namespace Go.Proofs.YtickndnaejdanaaGreatDoor
open Go.RowKit
set_option maxRecDepth 8000

theorem Tryz.infoStrG : (Tryz.prog.info? 9).map (fun i => (i.zero, i.size, i.bytes)) = some (some (.string ⟨#[]⟩), 1, 16) := by kernel_rfl

theorem addrAddG (b off n : Nat) : (⟨b, off, none⟩ : Addr).add n = ⟨b, off + n, none⟩ := by
  by_cases h : n = 0
  · subst h; simp [Addr.add]
  · simp [Addr.add, h]

/-- What GetList leaves. -/
def GlTo (w : World) (g : Nat) (v : Value) (most : Int) (xs : List Int) (u : Value) (w' : World) : Prop := w'.ownsRow w.heap.size 9 1 u (glL most xs).length (txV (glL most xs)) ∧ ReadsTo w g v ⟨0, (gl most xs).2.1, (gl most xs).2.2⟩ w'

set_option maxHeartbeats 400000 in
theorem getListS_no (g : Nat) (v : Value) (xs : List Int) (most f : Int) (w : World) (h : IsR w g v xs 0) (hf : f ≠ 0) (hc : rdCnt most xs 0 = ⟨-1, xs, f⟩)
    (hs : Calls Tryz.prog 26 #[.pointer (some ⟨g, 0, none⟩), .int .i64 most] w fun e w' => e = .returned (.tuple #[.int .i64 0, .bool false]) ∧ w' = w.setCell ⟨g, 2, none⟩ (.int .i64 f)) :
    Calls Tryz.prog 7 #[.pointer (some ⟨g, 0, none⟩), .int .i64 most, .func (.func 8) #[] #[]] w fun e w' => ∃ u, e = .returned u ∧ GlTo w g v most xs u w' := by
  have H : Hid (GlTo w g v most xs (.slice none 0 0) (w.setCell ⟨g, 2, none⟩ (.int .i64 f))) := by
    obtain ⟨e1, e2⟩ := gl_bad hc hf
    unfold GlTo
    rw [e1, e2]
    exact ⟨World.ownsRow_nil _ _ _ _, ReadsTo.fail h f⟩
  have HS : Hid _ := hs
  clear h hc hs
  go_enter Tryz.func7, Tryz.ntmps7
  go_wp2_with fail
  refine Calls.mono HS.out ?_
  rintro e w1 ⟨rfl, rfl⟩
  go_wp2
  go_ret
  exact ⟨_, rfl, H.out⟩

set_option maxHeartbeats 2000000 in
theorem getListS_ok (g : Nat) (v : Value) (xs : List Int) (most : Int) (n : Nat) (w : World) (h : IsR w g v xs 0) (hb : Byts xs) (hv : ∀ k, v.ownBlock = some k → k < w.heap.size) (hl : 4 ≤ xs.length) (ha : ahead xs = n) (hm : (n : Int) ≤ most) (ho : (n : Int) ≤ (xs.length : Int) - 4) (hc : rdCnt most xs 0 = ⟨(n : Int), xs.drop 4, 0⟩) (hn : n ≤ 1000000000) :
    Calls Tryz.prog 7 #[.pointer (some ⟨g, 0, none⟩), .int .i64 most, .func (.func 8) #[] #[]] w fun e w' => ∃ u, e = .returned u ∧ GlTo w g v most xs u w' := by
  have H : Hid (IsR w g v xs 0 ∧ Byts (xs.drop 4) ∧ g < w.heap.size ∧ (∀ k, v.ownBlock = some k → k < w.heap.size) ∧ gl most xs = gs (xs.drop 4) 0 n) := ⟨h, fun x hx => hb x (List.mem_of_mem_drop hx), lt_of_block h.1, hv, gl_ok hc⟩
  have HSZ := rSize_ok g v _ most w h hb (by omega) (by rw [ha]; omega) (by rw [ha]; exact hm) (by rw [ha]; omega)
  rw [ha] at HSZ
  have HSK := rSkip_ok g v _ 4 0 w h (by omega)
  have HK : Hid (ReadsTo w g v ⟨0, xs.drop 4, 0⟩ (w.setCell ⟨g, 1, none⟩ (cutFrom v 4))) := ReadsTo.skip (x := 0) (n := 4) h (by omega)
  obtain ⟨i0, hi, hz0, hz1, hz2⟩ := info_parts Tryz.infoStrG
  clear h hb hv ha hc
  generalize xs.drop 4 = zs at *
  go_enter Tryz.func7, Tryz.ntmps7
  go_wp2_with fail
  refine HSZ.mono ?_
  clear HSZ
  rintro e w1 ⟨rfl, rfl⟩
  go_wp2_with fail
  refine HSK.mono ?_
  clear HSK
  rintro e w2 ⟨rfl, rfl⟩
  go_wp2_with fail
  go_loopw [9, 10] (fun lv i wr => ∃ k : Nat, k ≤ n ∧ i = .int .i64 k ∧ Hid (wr.ownsRow w1.heap.size 9 1 lv (gs zs 0 k).1.length (txV (gs zs 0 k).1) ∧ ReadsTo w1 g v ⟨0, (gs zs 0 k).2.1, (gs zs 0 k).2.2⟩ wr)) (fun _ i _ => n - (intOf i).toNat)
  case atStart => exact ⟨0, Nat.zero_le _, rfl, World.ownsRow_nil _ _ _ _, HK.out⟩
  case round =>
    clear HK
    obtain ⟨k, hk, rfl, HR⟩ := hrel
    obtain ⟨vk, a1, a2, a3⟩ := HR.out.2
    have HRD := rReads_any g vk _ _ wr a1
    by_cases hlt : k < n ∧ (gs zs 0 k).2.2 = 0
    · obtain ⟨hlt, hf⟩ := hlt
      have hnx := gs_next hf
      have hlk := gs_full hf
      have hbk := gs_bytes 0 H.out.2.1 k
      rw [hf] at a1 HRD
      have HON := getOneS_any g vk _ wr a1 hbk
      have HA : Hid ((∀ k, vk.ownBlock = some k → v.ownBlock = some k) ∧ Kept w1 wr (· = g) ∧ wr.ownsRow w1.heap.size 9 1 u9 k (txV (gs zs 0 k).1)) := ⟨a2, a3, by have := HR.out.1; rwa [hlk] at this⟩
      have HNX : Hid (gs zs 0 (k + 1) = ((gs zs 0 k).1 ++ [(rdBuf 8 (gs zs 0 k).2.1 0).1], (rdBuf 8 (gs zs 0 k).2.1 0).2.rest, (rdBuf 8 (gs zs 0 k).2.1 0).2.fault) ∧ (gs zs 0 k).1.length = k) := ⟨hnx, hlk⟩
      have hsz := a3.size
      clear HR hbk a1 a2 a3 hf hnx hlk
      generalize gs zs 0 k = G at *
      generalize rdBuf 8 G.2.1 0 = R at *
      go_wp2_with fail
      refine HRD.mono ?_
      clear HRD
      rintro e w3 ⟨rfl, rfl⟩
      go_wp2_with fail
      refine HON.mono ?_
      clear HON
      rintro e w4 ⟨rfl, hr4⟩
      have HB4 : Hid (ReadsTo w1 g v R.2 w4 ∧ w4.ownsRow w1.heap.size 9 1 u9 k (txV G.1)) := by
        refine ⟨ReadsTo.nextS HA.out.2.1 HA.out.1 hr4, ?_⟩
        obtain ⟨_, _, _, b3⟩ := hr4
        exact row_kept HA.out.2.2 b3 (fun j e e' => by have h1 := (HA.out.2.2.lt j e).1; have h2 := H.out.2.2.1; omega)
      have hsz4 : w1.heap.size ≤ w4.heap.size := by obtain ⟨_, _, _, b3⟩ := HB4.out.1; exact b3.size
      clear hr4 HA
      obtain ⟨sx, hsx⟩ : ∃ sx, sx = strOfNums R.1 := ⟨_, rfl⟩
      rw [← hsx]
      have HSX : Hid _ := hsx
      clear hsx
      go_wp2_with (at_builtin; refine wpList_append_own_at _ rfl _ _ 27 rfl w1.heap.size 9 i0 _ 1 16 Tryz.underlying27 hi hz0 hz1 hz2 rfl (by decide) _ _ _ rfl (row_kept HB4.out.2 ((Kept.refl w4 (fun _ => False)).alloc _) (fun _ _ h => h)) ⟨w4.heap.size, 0, none⟩ 1 1 [.string sx] rfl rfl ?c1 ?c2 ?c3 ?c4 ?c5 ?_)
      case c1 =>
        intro j u hj
        rw [addrAddG, Nat.zero_add, cell_of_row _ _ _ _ _ _ (heap_alloc_new _ _)]
        rw [← hj]
        simp
      case c2 =>
        intro u hu
        simp only [List.mem_cons, List.not_mem_nil, or_false] at hu
        rcases hu with rfl
        rfl
      case c3 => unfold maxLen; omega
      case c4 => omega
      case c5 => simp; omega
      intro v' w5 hown' hgrow _ _
      have HR5 : Hid (w5.ownsRow w1.heap.size 9 1 v' (k + 1) (txV G.1 ++ [.string sx]) ∧ ReadsTo w1 g v R.2 w5) := by
        refine ⟨hown', ?_⟩
        obtain ⟨v5, b1, b2, b3⟩ := HB4.out.1
        have hka := (Kept.refl w4 (fun _ => False)).alloc (.cells #[.string sx] 9)
        have hkg : Kept (w4.alloc (.cells #[.string sx] 9)) w5 (fun j => u9.ownBlock = some j) := ⟨hgrow.os, hgrow.tape, hgrow.output, hgrow.size, fun j hj hn => hgrow.block j hj (fun e => hn e.symm)⟩
        have hkk := (hka.mono (S' := fun j => u9.ownBlock = some j) (fun _ _ h => h.elim)).trans hkg (fun _ _ h => h)
        have hlo : ∀ j, u9.ownBlock = some j → w1.heap.size ≤ j := fun j e => (HB4.out.2.lt j e).1
        exact ⟨v5, b1.kept hkk (fun e => by have := hlo g e; have := H.out.2.2.1; omega) (fun j e e' => by have h1 := hlo j e'; have h2 := H.out.2.2.2.1 j (b2 j e); omega), b2, b3.trans hkk (fun j hj e => by have := hlo j e; omega)⟩
      clear hown' hgrow HB4
      go_wp2_with fail
      go_roundw
      case rel =>
        refine ⟨k + 1, by omega, by go_num, ?_⟩
        rw [HNX.out.1]
        refine ⟨?_, HR5.out.2⟩
        have h5 := HR5.out.1
        rw [HSX.out] at h5
        rw [show (G.1 ++ [R.1]).length = k + 1 by simp [HNX.out.2], show txV (G.1 ++ [R.1]) = txV G.1 ++ [.string (strOfNums R.1)] by simp [txV]]
        exact h5
      case measure => simp [intOf]; omega
    · have HF : Hid (ReadsTo w1 g v ⟨0, (gl most xs).2.1, (gl most xs).2.2⟩ wr ∧ (gl most xs).2.2 = (gs zs 0 k).2.2 ∧ ((gs zs 0 k).2.2 = 0 → wr.ownsRow w1.heap.size 9 1 u9 (glL most xs).length (txV (glL most xs))) ∧ ((gs zs 0 k).2.2 ≠ 0 → glL most xs = [])) := by
        have he : gl most xs = gs zs 0 k := by
          rw [H.out.2.2.2.2]
          refine gs_end hk ?_
          by_cases e : k = n
          · exact .inl e
          · exact .inr (fun h => hlt ⟨by omega, h⟩)
        refine ⟨by rw [he]; exact HR.out.2, by rw [he], fun h0 => ?_, fun h0 => ?_⟩
        · unfold glL
          rw [he, if_pos h0]
          exact HR.out.1
        · unfold glL
          rw [he, if_neg h0]
      obtain ⟨ua, un, uc, rfl⟩ := row_form HR.out.1
      have HRD2 := HRD
      clear HR a1 a2 a3
      generalize (gs zs 0 k).2.2 = F at *
      by_cases hF : F = 0
      · subst hF
        have hkn : k = n := by
          have := fun h => hlt ⟨h, rfl⟩
          omega
        subst hkn
        have HG : Hid (GlTo w1 g v most xs (.slice ua un uc) wr) := ⟨HF.out.2.2.1 rfl, HF.out.1⟩
        clear HF hlt HRD2
        go_wp2_with fail
        refine HRD.mono ?_
        clear HRD
        rintro e w3 ⟨rfl, rfl⟩
        go_wp2_with fail
        go_ret
        exact ⟨_, rfl, HG.out⟩
      · have HG : Hid (GlTo w1 g v most xs (.slice none 0 0) wr) := ⟨by rw [HF.out.2.2.2 hF]; exact World.ownsRow_nil _ _ _ _, HF.out.1⟩
        have hFb : (F == 0) = false := by simp [hF]
        rw [hFb] at HRD HRD2
        clear HF hlt
        by_cases hlt : k < n
        · go_wp2_with fail
          refine HRD.mono ?_
          clear HRD
          rintro e w3 ⟨rfl, rfl⟩
          go_wp2_with fail
          refine HRD2.mono ?_
          clear HRD2
          rintro e w4 ⟨rfl, rfl⟩
          go_wp2_with fail
          go_ret
          exact ⟨_, rfl, HG.out⟩
        · clear HRD
          go_wp2_with fail
          refine HRD2.mono ?_
          clear HRD2
          rintro e w4 ⟨rfl, rfl⟩
          go_wp2_with fail
          go_ret
          exact ⟨_, rfl, HG.out⟩

theorem getListS_any (g : Nat) (v : Value) (xs : List Int) (most : Int) (w : World) (h : IsR w g v xs 0) (hb : Byts xs) (hv : ∀ k, v.ownBlock = some k → k < w.heap.size) (hn : xs.length ≤ 1000000000) :
    Calls Tryz.prog 7 #[.pointer (some ⟨g, 0, none⟩), .int .i64 most, .func (.func 8) #[] #[]] w fun e w' => ∃ u, e = .returned u ∧ GlTo w g v most xs u w' := by
  rcases rdCnt_ways most xs with ⟨h1, hc⟩ | ⟨h1, h2, hc⟩ | ⟨h1, h2, h3, h4, hc⟩ | ⟨h1, h2, h3, h4, hc⟩
  · exact getListS_no g v xs most 10 w h (by decide) hc (rSize_short g v xs most w h h1)
  · exact getListS_no g v xs most 11 w h (by decide) hc (rSize_wide g v xs most w h hb h1 h2)
  · exact getListS_no g v xs most 10 w h (by decide) hc (rSize_over g v xs most w h hb h1 h2 h3 h4)
  · obtain ⟨n, hne⟩ : ∃ n : Nat, ahead xs = n := ⟨(ahead xs).toNat, by omega⟩
    rw [hne] at h3 h4 hc
    exact getListS_ok g v xs most n w h hb hv h1 hne h3 h4 hc (by omega)
end Go.Proofs.YtickndnaejdanaaGreatDoor
