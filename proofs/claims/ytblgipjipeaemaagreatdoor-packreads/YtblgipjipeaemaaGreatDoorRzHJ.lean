/- The walk of reads: a Reader and the document's, in step over every list of calls. -/
import Derived.Test.YtblgipjipeaemaaGreatDoorRzIJ
import Derived.Test.YtblgipjipeaemaaGreatDoorTellsWalkJ
import Derived.Deep.RegionHeld
import Derived.Deep.CutRange
namespace Go.Proofs.YtblgipjipeaemaaGreatDoor
open Go.RowKit
set_option maxRecDepth 8000
namespace Rz

theorem byts_drop {bs : List Int} (h : Byts bs) (p : Nat) : Byts (bs.drop p) := fun x hx => h x (List.mem_of_mem_drop hx)

set_option maxHeartbeats 6000000 in
theorem reads_any (gr gd C E : Nat) (v vd : Value) (bs : List Int) (ask : Bool) (a : Option Addr) (os : List OpD) (cap : Nat) (w0 w : World) (hs : SeesOps w0 (.slice a os.length cap) os) (ht : Tab w0) (hg0 : 1 < w0.heap.size)
    (hb0 : Below w0.heap.size w0 w) (hc : Rc w gr gd C vd bs) (hlow : w0.heap.size ≤ gr ∧ w0.heap.size ≤ gd ∧ (bs ≠ [] → w0.heap.size ≤ C)) (hp : Rp gr gd C E vd bs w v (bs.drop 0) 0 0 0 0) (hEm : E ≤ 70000000000000) (hcr : bs ≠ [] → ∃ cs, w.heap[C]? = some (.cells cs 5 (0, 0)) ∧ E ≤ cs.size) :
    Calls Tryz.prog 11 #[.pointer (some ⟨gr, 0, none⟩), .pointer (some ⟨gd, 0, none⟩), .slice a os.length cap, .bool ask] w fun e w' => e = .returned (.bool true) ∧ Kept w w' (fun k => k = gr ∨ k = gd ∨ (bs ≠ [] ∧ k = C)) := by
  have q1 : os.length ≤ cap ∧ cap ≤ 9223372036854775807 := by
    obtain ⟨_, _, e, h1, h2, _⟩ := hs; simp at e; obtain ⟨_, rfl⟩ := e; unfold maxLen at h2; omega
  obtain ⟨q3, q4⟩ := q1
  have HC : Hid (Rc w gr gd C vd bs) := hc
  have HS : Hid (SeesOps w0 (.slice a os.length cap) os ∧ Tab w0 ∧ Below w0.heap.size w0 w) := ⟨hs, ht, hb0⟩
  have HLO : Hid (w0.heap.size ≤ gr ∧ w0.heap.size ≤ gd ∧ (bs ≠ [] → w0.heap.size ≤ C)) := hlow
  have HP0 : Hid (Rp gr gd C E vd bs (w.alloc (.cells (bagCells nilS nilS) 73)) v (bs.drop 0) 0 0 0 0) := hp.keep ((Kept.refl w _).alloc _)
  have HL0 : Hid (Rl w gr gd C E bs (w.alloc (.cells (bagCells nilS nilS) 73)) nilS nilS [] [] [] 0) :=
    { crow := fun hb => by obtain ⟨cs, h1, h2⟩ := hcr hb; exact ⟨cs, ((Kept.refl w (fun _ => False)).alloc _).heap h1 (fun h => h), h2⟩
      bag := heap_alloc_new _ _
      kept := World.ownsRow_nil _ _ _ _
      whole := World.ownsRow_nil _ _ _ _
      klen := rfl
      hlen := rfl
      kl := fun j hj => by simp at hj
      hl := fun j hj => by simp at hj
      kh := fun k hk => by simp [Value.ownBlock] at hk
      ap := fun i j hi => by simp at hi
      zb := fun z hz => by simp at hz
      top := Nat.zero_le _
      rel := (Kept.refl w _).alloc _ }
  obtain ⟨i1, gi, gz0, gz1, gz2⟩ := info_parts Tryz.infoBytes
  have hsf := store_float
  clear hs ht hb0 hc hlow hp hcr
  go_enter Tryz.func11, Tryz.ntmps11
  go_wp2
  go_loopw [10, 11, 12] (fun kv hv iv wr => ∃ (i : Nat) (v : Value) (ks hs : List Pc) (zs : List (List Int)) (p hi : Nat) (f : Int), iv = .int .i64 i ∧ i ≤ os.length ∧ zs.length ≤ 100 ∧ Rl w gr gd C E bs wr kv hv ks hs zs hi ∧ Rp gr gd C E vd bs wr v (bs.drop p) f p f hi) (fun _ _ iv _ => os.length - (intOf iv).toNat)
  case atStart => exact ⟨0, v, [], [], [], 0, 0, 0, rfl, Nat.zero_le _, Nat.zero_le _, HL0.out, HP0.out⟩
  case round =>
    clear HL0 HP0
    obtain ⟨i, v, ks, hs, zs, p, hi, f, rfl, hil, hzl, hL, hP⟩ := hrel
    have HX : Hid (Rl w gr gd C E bs wr u10 u11 ks hs zs hi ∧ Rp gr gd C E vd bs wr v (bs.drop p) f p f hi) := ⟨hL, hP⟩
    obtain ⟨ka, kn, kc, rfl, hkn⟩ : ∃ a n c, u10 = .slice a n c ∧ n = ks.length := by
      rcases hL.kept.2 with ⟨rfl, h0⟩ | ⟨g', c, cur, rfl, _⟩
      · exact ⟨_, _, _, rfl, h0.symm⟩
      · exact ⟨_, _, _, rfl, rfl⟩
    obtain ⟨ha, hn, hcp, rfl, hhn⟩ : ∃ a n c, u11 = .slice a n c ∧ n = hs.length := by
      rcases hL.whole.2 with ⟨rfl, h0⟩ | ⟨g', c, cur, rfl, _⟩
      · exact ⟨_, _, _, rfl, h0.symm⟩
      · exact ⟨_, _, _, rfl, rfl⟩
    rw [hL.klen] at hkn
    rw [hL.hlen] at hhn
    subst hkn
    subst hhn
    clear hL hP
    by_cases hlt : i < os.length
    · obtain ⟨b, off, rfl, hops⟩ : ∃ b off, a = some ⟨b, off, none⟩ ∧ SeesOp w0 b (off + i * 6) os[i] := by
        obtain ⟨_, _, e, _, _, h3⟩ := HS.out.1
        simp at e
        obtain ⟨rfl, rfl⟩ := e
        rcases h3 with h3 | ⟨b, off, e, h3⟩
        · subst h3; simp at hlt
        · exact ⟨b, off, e, h3 i hlt⟩
      have HB : Hid (∀ w', Kept w w' (fun k => k = gr ∨ k = gd ∨ (bs ≠ [] ∧ k = C)) → Below w0.heap.size w0 w') := fun w' hk => HS.out.2.2.trans (hk.below HS.out.2.2.size (fun k e => by
        rcases e with e | e | ⟨hb, e⟩
        · rw [e]; exact HLO.out.1
        · rw [e]; exact HLO.out.2.1
        · rw [e]; exact HLO.out.2.2 hb))
      have HO : Hid (∀ w', Kept w w' (fun k => k = gr ∨ k = gd ∨ (bs ≠ [] ∧ k = C)) → SeesOp w' b (off + i * 6) os[i]) := fun w' hk => packTells.SeesOp.below hops (HB.out w' hk) (Nat.le_refl _)
      clear hops
      generalize hoi : os[i] = o at *
      obtain ⟨kind, on, n, x, s, oa, oc, yb⟩ := o
      obtain ⟨c0, c1, c2, c3, c4, c5, _, _⟩ := HO.out wr HX.out.1.rel
      simp only at c0 c1 c2 c3 c4 c5
      clear hoi
      go_wp2_with fail
      refine (get_every kind gr v (bs.drop p) f on n x s oa yb.length oc _ HX.out.2.isR (byts_drop HC.out.byts p)).mono ?_
      rintro e w1 ⟨u, rfl, hcut, hr⟩
      have hal := ansA_len kind n (bs.drop p) f
      have hxb := ansA_x kind n (bs.drop p) f (byts_drop HC.out.byts p)
      have HSH : Hid (∀ W, IsQ W gd vd bs p f → _) := fun W h => should_every kind gd vd bs p f on n x s oa yb.length oc W h HC.out.byts
      generalize ansA kind n (bs.drop p) f = A at *
      obtain ⟨⟨Ab, An, Ax, As, ys, ⟨n0, rest, f1⟩⟩, e0, e1⟩ := A
      simp only at hcut hr hal hxb HSH
      obtain ⟨v1, hP1, hnew, hsu, ⟨ua, hu⟩, hk1⟩ := Rp.get HC.out HX.out.2 hcut hr hal
      have hL1 := Rl.calm HC.out HX.out.1 (Calm.of_kept HC.out hk1 (fun k e => .inl e))
      have HZ : Hid (Ax < 18446744073709551616) := hxb
      generalize hq : ys.length = q at hu
      subst hu
      have hBN := hL1.nil
      have H1 : Hid (Rl w gr gd C E bs w1 (.slice ka zs.length kc) (.slice ha zs.length hcp) ks hs zs hi ∧ Rp gr gd C E vd bs w1 v1 rest f1 p f hi ∧ NewCut bs C E hi (.slice ua q q) ys rest ∧ Sees w1 (.slice ua q q) ys ∧ ys.length = q) := ⟨hL1, hP1, hnew, hsu, hq⟩
      clear hcut hr hal hxb hP1 hL1 hnew hsu hk1 hq HX c0 c1 c2 c3 c4 c5
      go_upto_region 8 with fail
      have hka : Kept w1 (w1.alloc (.cells (told Ab An Ax As (.slice ua q q) e0 e1) 76)) (fun _ => False) := (Kept.refl w1 _).alloc _
      have H2 : Hid (Rl w gr gd C E bs (w1.alloc (.cells (told Ab An Ax As (.slice ua q q) e0 e1) 76)) (.slice ka zs.length kc) (.slice ha zs.length hcp) ks hs zs hi ∧ Rp gr gd C E vd bs (w1.alloc (.cells (told Ab An Ax As (.slice ua q q) e0 e1) 76)) v1 rest f1 p f hi ∧ NewCut bs C E hi (.slice ua q q) ys rest ∧ Sees (w1.alloc (.cells (told Ab An Ax As (.slice ua q q) e0 e1) 76)) (.slice ua q q) ys ∧ ys.length = q ∧ (w1.alloc (.cells (told Ab An Ax As (.slice ua q q) e0 e1) 76)).heap[w1.heap.size]? = some (.cells (told Ab An Ax As (.slice ua q q) e0 e1) 76 (0, 0))) :=
        ⟨H1.out.1.keep HC.out hka, H1.out.2.1.keep hka, H1.out.2.2.1, H1.out.2.2.2.1.kept hka (fun _ _ h => h), H1.out.2.2.2.2, heap_alloc_new _ _⟩
      clear hka H1
      generalize w1.alloc (.cells (told Ab An Ax As (.slice ua q q) e0 e1) 76) = w2 at *
      generalize w1.heap.size = B at *
      obtain ⟨c0, c1, c2, c3, c4, c5, _, _⟩ := HO.out w2 H2.out.1.rel
      simp only at c0 c1 c2 c3 c4 c5
      go_wp2_with fail
      refine (HSH.out w2 H2.out.2.1.isQ).mono ?_
      rintro e w3 ⟨u', y, rfl, hfl, ho, hqt⟩
      obtain ⟨p1, hp1, hP3, hk3⟩ := H2.out.2.1.should HC.out hqt
      have hL3 := H2.out.1.calm HC.out (Calm.of_kept HC.out hk3 (fun k e => .inr e))
      have hB3 := hk3.heap H2.out.2.2.2.2.2 (fun e => by have := HC.out.d; omega)
      have hs3 : Sees w3 (.slice ua q q) ys := H2.out.2.2.2.1.kept' hk3 (fun hy k hk e => by
        obtain ⟨hb, off, e1, _⟩ := H2.out.2.2.1 hy
        rw [e1] at hk
        simp [Value.ownBlock] at hk
        subst hk
        exact (HC.out.c hb).2.2 e)
      obtain ⟨va, vn, vc, rfl⟩ := owns_shape ho
      have ho3 : Owns w3 w.heap.size (.slice va vn vc) ys := owns_mono ho H2.out.1.rel.size
      have H3 : Hid (Rl w gr gd C E bs w3 (.slice ka zs.length kc) (.slice ha zs.length hcp) ks hs zs hi ∧ Rp gr gd C E vd bs w3 v1 rest f1 p1 f1 hi ∧ NewCut bs C E hi (.slice ua q q) ys rest ∧ Sees w3 (.slice ua q q) ys ∧ ys.length = q ∧ w3.heap[B]? = some (.cells (told Ab An Ax As (.slice ua q q) e0 e1) 76 (0, 0)) ∧ Owns w3 w.heap.size (.slice va vn vc) ys ∧ FlOf Ax y ∧ bs.drop p1 = rest) :=
        ⟨hL3, hP3, H2.out.2.2.1, hs3, H2.out.2.2.2.2.1, hB3, ho3, hfl, hp1⟩
      clear hp1 hP3 hk3 hL3 hB3 hs3 ho ho3 hfl hqt H2 HSH c0 c1 c2 c3 c4 c5
      go_upto_region 9 with fail
      have hka : Kept w3 (w3.alloc (.cells (told Ab An y As (.slice va vn vc) e0 e1) 76)) (fun _ => False) := (Kept.refl w3 _).alloc _
      have H4 : Hid (Rl w gr gd C E bs (w3.alloc (.cells (told Ab An y As (.slice va vn vc) e0 e1) 76)) (.slice ka zs.length kc) (.slice ha zs.length hcp) ks hs zs hi ∧ Rp gr gd C E vd bs (w3.alloc (.cells (told Ab An y As (.slice va vn vc) e0 e1) 76)) v1 rest f1 p1 f1 hi ∧ NewCut bs C E hi (.slice ua q q) ys rest ∧ Sees (w3.alloc (.cells (told Ab An y As (.slice va vn vc) e0 e1) 76)) (.slice ua q q) ys ∧ ys.length = q ∧ (w3.alloc (.cells (told Ab An y As (.slice va vn vc) e0 e1) 76)).heap[B]? = some (.cells (told Ab An Ax As (.slice ua q q) e0 e1) 76 (0, 0)) ∧ Owns (w3.alloc (.cells (told Ab An y As (.slice va vn vc) e0 e1) 76)) w.heap.size (.slice va vn vc) ys ∧ FlOf Ax y ∧ bs.drop p1 = rest
          ∧ (w3.alloc (.cells (told Ab An y As (.slice va vn vc) e0 e1) 76)).heap[w3.heap.size]? = some (.cells (told Ab An y As (.slice va vn vc) e0 e1) 76 (0, 0))) :=
        ⟨H3.out.1.keep HC.out hka, H3.out.2.1.keep hka, H3.out.2.2.1, H3.out.2.2.2.1.kept hka (fun _ _ h => h), H3.out.2.2.2.2.1, hka.heap H3.out.2.2.2.2.2.1 (fun h => h), Owns.kept H3.out.2.2.2.2.2.2.1 hka (fun _ _ h => h), H3.out.2.2.2.2.2.2.2.1, H3.out.2.2.2.2.2.2.2.2, heap_alloc_new _ _⟩
      clear hka H3
      generalize w3.alloc (.cells (told Ab An y As (.slice va vn vc) e0 e1) 76) = w4 at *
      generalize w3.heap.size = B2 at *
      obtain ⟨k0, k1, k2, k3, k4, k5, k6, _⟩ := row7 H4.out.2.2.2.2.2.1
      obtain ⟨l0, l1, l2, l3, l4, l5, l6, _⟩ := row7 H4.out.2.2.2.2.2.2.2.2.2
      go_wp2_with fail
      refine (same_any Ab An Ax y As _ _ e0 e1 ys _ HZ.out H4.out.2.2.2.2.2.2.2.1 H4.out.2.2.2.1 (Sees.own H4.out.2.2.2.2.2.2.1)).mono ?_
      rintro e w5 ⟨rfl, hk5⟩
      have H5 : Hid (Rl w gr gd C E bs w5 (.slice ka zs.length kc) (.slice ha zs.length hcp) ks hs zs hi ∧ Rp gr gd C E vd bs w5 v1 rest f1 p1 f1 hi ∧ NewCut bs C E hi (.slice ua q q) ys rest ∧ Sees w5 (.slice ua q q) ys ∧ ys.length = q ∧ w5.heap[B]? = some (.cells (told Ab An Ax As (.slice ua q q) e0 e1) 76 (0, 0)) ∧ Owns w5 w.heap.size (.slice va vn vc) ys ∧ bs.drop p1 = rest
          ∧ w5.heap[B2]? = some (.cells (told Ab An y As (.slice va vn vc) e0 e1) 76 (0, 0))) :=
        ⟨H4.out.1.keep HC.out hk5, H4.out.2.1.keep hk5, H4.out.2.2.1, H4.out.2.2.2.1.kept hk5 (fun _ _ h => h), H4.out.2.2.2.2.1, hk5.heap H4.out.2.2.2.2.2.1 (fun h => h), Owns.kept H4.out.2.2.2.2.2.2.1 hk5 (fun _ _ h => h), H4.out.2.2.2.2.2.2.2.2.1, hk5.heap H4.out.2.2.2.2.2.2.2.2.2 (fun h => h)⟩
      clear hk5 H4 HZ k0 k1 k2 k3 k4 k5 k6 l0 l1 l2 l3 l4 l5 l6
      obtain ⟨_, _, _, _, k4, _, _, _⟩ := row7 H5.out.2.2.2.2.2.1
      obtain ⟨_, _, _, _, l4, _, _, _⟩ := row7 H5.out.2.2.2.2.2.2.2.2
      go_upto_if 48 with fail
      go_cut [10, 11] from 23 to 89 (fun kv hv wc => ∃ (ka' ha' : Option Addr) (kc' hc' : Nat) (ks hs : List Pc) (zs : List (List Int)) (hi : Nat), kv = .slice ka' zs.length kc' ∧ hv = .slice ha' zs.length hc' ∧ zs.length ≤ 100 ∧ Rl w gr gd C E bs wc kv hv ks hs zs hi ∧ Rp gr gd C E vd bs wc v1 rest f1 p1 f1 hi)
      case first =>
        by_cases hpar : i % 2 = 0
        · have hpe : ((i : Int) % 2 == 0) = true := by simp; omega
          go_wp2_with fail
          refine (spoil_new HC.out H5.out.1 H5.out.2.1 H5.out.2.2.1 H5.out.2.2.2.1 ?_).mono ?_
          · by_cases hy : ys = []
            · rw [hy]; simp
            · obtain ⟨_, off1, _, _, h9⟩ := H5.out.2.2.1 hy
              omega
          rintro e w6 ⟨rfl, hL6, hP6⟩
          have H6 : Hid (Rl w gr gd C E bs w6 (.slice ka zs.length kc) (.slice ha zs.length hcp) ks hs zs hi ∧ Rp gr gd C E vd bs w6 v1 rest f1 p1 f1 hi) := ⟨hL6, hP6⟩
          clear hL6 hP6
          go_wp2_with fail
          go_meet
          exact ⟨_, _, _, _, ks, hs, zs, hi, rfl, rfl, hzl, H6.out.1, H6.out.2⟩
        · have hpe : ((i : Int) % 2 == 0) = false := by rw [beq_eq_false_iff_ne]; omega
          by_cases h100 : zs.length < 100
          · have hown5 : w5.ownsRow w.heap.size 22 1 (.slice ka zs.length kc) zs.length (ks.map Pc.val) := by have h := H5.out.1.kept; rw [H5.out.1.klen] at h; exact h
            have hN5 : w.heap.size < w5.heap.size := H5.out.1.nil
            go_upto_region 16 with (at_builtin; refine wpList_append_own_at _ rfl (.tmp 55) (.tmp 58) 51 rfl w.heap.size 22 i1 _ 1 24 Tryz.underlying51 gi gz0 gz1 gz2 rfl (by decide) (.slice ka zs.length kc) zs.length (ks.map Pc.val) rfl (ownsRow_same' hown5 ((Kept.refl w5 (fun _ => False)).alloc _) (fun _ _ h => h)) ⟨w5.heap.size, 0, none⟩ 1 1 [.slice ua q q] rfl rfl (new_cell1 _ _ _) ?one (by unfold maxLen; omega) (by omega) (by simp; omega) ?_)
            case one => intro u hu; simp at hu; subst hu; rfl
            intro v6 w6 hown6 hgrow6 _ hat6
            have hk6 : Kept w5 w6 (fun k => (Value.slice ka zs.length kc).ownBlock = some k) := ((Kept.refl w5 _).alloc _).trans (kept_grown hgrow6 (fun k e => e)) (fun _ _ h => h)
            have hn6 : ∀ k, v6.ownBlock = some k → (Value.slice ka zs.length kc).ownBlock = some k ∨ w5.heap.size ≤ k := fun k e => by
              rcases hat6 with e' | e'
              · exact .inl (e'.symm.trans e)
              · rw [e'] at e; simp at e; exact .inr (by omega)
            have l6 := hk6.heap H5.out.2.2.2.2.2.2.2.2 (fun e => ne_type H5.out.2.2.2.2.2.2.2.2 (rows_row hown5 e).1.choose_spec (by decide) rfl)
            obtain ⟨_, _, _, _, l4, _, _, _⟩ := row7 l6
            have hown7 : w6.ownsRow w.heap.size 22 1 (.slice ha zs.length hcp) zs.length (hs.map Pc.val) := by
              have h := H5.out.1.whole
              rw [H5.out.1.hlen] at h
              exact ownsRow_same' h hk6 (fun k e e' => H5.out.1.kh k e' e)
            obtain ⟨va6, vn6, vc6, rfl⟩ : ∃ a n c, v6 = .slice a n c := by
              rcases hown6.2 with ⟨rfl, _⟩ | ⟨g', c, cur, rfl, _⟩
              · exact ⟨_, _, _, rfl⟩
              · exact ⟨_, _, _, rfl⟩
            have hvn6 : vn6 = (zs ++ [ys]).length := by
              rw [List.length_append]
              rcases hown6.2 with ⟨e, h0⟩ | ⟨g', c, cur, e, _⟩
              · omega
              · simp only [Value.slice.injEq] at e; exact e.2.1
            have H6 : Hid (w6.ownsRow w.heap.size 22 1 (.slice va6 vn6 vc6) (zs.length + 1) (ks.map Pc.val ++ [.slice ua q q]) ∧ Kept w5 w6 (fun k => (Value.slice ka zs.length kc).ownBlock = some k) ∧ (∀ k, (Value.slice va6 vn6 vc6).ownBlock = some k → (Value.slice ka zs.length kc).ownBlock = some k ∨ w5.heap.size ≤ k)) := ⟨hown6, hk6, hn6⟩
            have hN6 : w.heap.size < w6.heap.size := Nat.lt_of_lt_of_le hN5 hk6.size
            clear hown6 hgrow6 hat6 hk6 hn6 l6 hown5 k4
            go_wp2_with (at_builtin; refine wpList_append_own_at _ rfl (.tmp 60) (.tmp 63) 51 rfl w.heap.size 22 i1 _ 1 24 Tryz.underlying51 gi gz0 gz1 gz2 rfl (by decide) (.slice ha zs.length hcp) zs.length (hs.map Pc.val) rfl (ownsRow_same' hown7 ((Kept.refl w6 (fun _ => False)).alloc _) (fun _ _ h => h)) ⟨w6.heap.size, 0, none⟩ 1 1 [.slice va vn vc] rfl rfl (new_cell1 _ _ _) ?one (by unfold maxLen; omega) (by omega) (by simp; omega) ?_)
            case one => intro u hu; simp at hu; subst hu; rfl
            intro v7 w7 hown8 hgrow7 _ hat7
            have hk7 : Kept w6 w7 (fun k => (Value.slice ha zs.length hcp).ownBlock = some k) := ((Kept.refl w6 _).alloc _).trans (kept_grown hgrow7 (fun k e => e)) (fun _ _ h => h)
            have hn7 : ∀ k, v7.ownBlock = some k → (Value.slice ha zs.length hcp).ownBlock = some k ∨ w6.heap.size ≤ k := fun k e => by
              rcases hat7 with e' | e'
              · exact .inl (e'.symm.trans e)
              · rw [e'] at e; simp at e; exact .inr (by omega)
            obtain ⟨va7, vn7, vc7, rfl⟩ : ∃ a n c, v7 = .slice a n c := by
              rcases hown8.2 with ⟨rfl, _⟩ | ⟨g', c, cur, rfl, _⟩
              · exact ⟨_, _, _, rfl⟩
              · exact ⟨_, _, _, rfl⟩
            have hvn7 : vn7 = (zs ++ [ys]).length := by
              rw [List.length_append]
              rcases hown8.2 with ⟨e, h0⟩ | ⟨g', c, cur, e, _⟩
              · omega
              · simp only [Value.slice.injEq] at e; exact e.2.1
            have H7 : Hid (∃ hi', Rl w gr gd C E bs w7 (.slice va6 vn6 vc6) (.slice va7 vn7 vc7) (ks ++ [⟨ua, q, q⟩]) (hs ++ [⟨va, vn, vc⟩]) (zs ++ [ys]) hi' ∧ Rp gr gd C E vd bs w7 v1 rest f1 p1 f1 hi') := by
              have e1 := H5.out.1.klen
              have e2 := H5.out.1.hlen
              obtain ⟨hi', g1, g2, g3⟩ := H5.out.1.push (pk := ⟨ua, q, q⟩) (ph := ⟨va, vn, vc⟩) HC.out H5.out.2.2.1 H5.out.2.1.room H5.out.2.2.2.1 H5.out.2.2.2.2.1.symm H5.out.2.2.2.2.2.2.1 (by rw [e1]; exact H6.out.1) H6.out.2.1 H6.out.2.2 (by rw [e2]; exact hown8) hk7 hn7
              exact ⟨hi', g1, (H5.out.2.1.keepN HC.out g3 (fun _ h => h)).above g2⟩
            subst hvn6
            subst hvn7
            clear hown8 hgrow7 hat7 hk7 hn7 H6 hown7 l4
            go_wp2_with fail
            go_meet
            have e9 : (zs ++ [ys]).length = zs.length + 1 := by simp
            obtain ⟨hi2, r1, r2⟩ := H7.out
            rw [e9] at r1
            refine ⟨va6, va7, vc6, vc7, ks ++ [⟨ua, q, q⟩], hs ++ [⟨va, vn, vc⟩], zs ++ [ys], hi2, by rw [e9], by rw [e9], by omega, ?_, r2⟩
            rw [e9]
            exact r1
          · go_wp2_with fail
            go_meet
            exact ⟨_, _, _, _, ks, hs, zs, hi, rfl, rfl, hzl, H5.out.1, H5.out.2.1⟩
      case rest =>
        obtain ⟨ka', ha', kc', hc', ks', hs', zs', hi', rfl, rfl, hzl', hL7, hP7⟩ := hcut
        have H7 : Hid (Rl w gr gd C E bs wc (.slice ka' zs'.length kc') (.slice ha' zs'.length hc') ks' hs' zs' hi' ∧ Rp gr gd C E vd bs wc v1 rest f1 p1 f1 hi' ∧ bs.drop p1 = rest) := ⟨hL7, hP7, H5.out.2.2.2.2.2.2.2.1⟩
        clear hL7 hP7 H5 k4 l4
        cases ask with
        | false =>
          go_wp2
          go_roundw
          case rel => exact ⟨i + 1, v1, ks', hs', zs', p1, hi', f1, by go_num, by omega, hzl', H7.out.1, by rw [H7.out.2.2]; exact H7.out.2.1⟩
          case measure => simp [intOf]; omega
        | true =>
          go_wp2_with fail
          refine (rLeft_any gr v1 rest f1 _ H7.out.2.1.isR).mono ?_
          rintro e wx ⟨rfl, e9⟩
          rw [e9]
          clear e9
          go_wp2_with fail
          refine (rErr_any gr v1 rest f1 _ H7.out.2.1.isR).mono ?_
          rintro e wx ⟨rfl, e9⟩
          rw [e9]
          clear e9
          go_wp2_with fail
          obtain ⟨E1, hE1⟩ : ∃ E1 : Int, E1 = (if f1 ≠ 0 then f1 else if rest = [] then 0 else 13) := ⟨_, rfl⟩
          have hr1 := rEnd_any gr v1 rest f1 _ H7.out.2.1.isR
          rw [← hE1] at hr1
          have HQ : Hid (∀ W, IsQ W gd vd bs p1 f1 → (Calls Tryz.prog 25 #[.pointer (some ⟨gd, 0, none⟩)] W fun e w' => e = .returned (.int .i64 (rest.length : Nat)) ∧ ∃ m, w' = W.drewN m) ∧ (Calls Tryz.prog 26 #[.pointer (some ⟨gd, 0, none⟩)] W fun e w' => e = .returned (.int .i64 E1) ∧ ∃ m, w' = W.drewN m)) := fun W hq => by
            have q2 := qEnd_any gd vd bs p1 f1 W hq
            have q3 := qLeft_any gd vd bs p1 f1 W hq
            rw [H7.out.2.2] at q2 q3
            rw [← hE1] at q2
            exact ⟨q3, q2⟩
          clear hE1
          refine hr1.mono ?_
          rintro e wx ⟨rfl, e9⟩
          rw [e9]
          clear e9
          clear hr1
          go_wp2_with fail
          refine (HQ.out _ H7.out.2.1.isQ).1.mono ?_
          rintro e w8 ⟨rfl, m8, hw8⟩
          have hk8 : Kept wc w8 (fun _ => False) := by rw [hw8]; exact (Kept.refl _ _).drewN _
          have H8 : Hid (Rl w gr gd C E bs w8 (.slice ka' zs'.length kc') (.slice ha' zs'.length hc') ks' hs' zs' hi' ∧ Rp gr gd C E vd bs w8 v1 rest f1 p1 f1 hi' ∧ bs.drop p1 = rest) := ⟨H7.out.1.keep HC.out hk8, H7.out.2.1.keep hk8, H7.out.2.2⟩
          clear hk8 hw8 H7
          have d2 := H8.out.2.1.isQ.c2
          go_wp2_with fail
          refine (HQ.out _ H8.out.2.1.isQ).2.mono ?_
          rintro e w9 ⟨rfl, m9, hw9⟩
          have hk9 : Kept w8 w9 (fun _ => False) := by rw [hw9]; exact (Kept.refl _ _).drewN _
          have H9 : Hid (Rl w gr gd C E bs w9 (.slice ka' zs'.length kc') (.slice ha' zs'.length hc') ks' hs' zs' hi' ∧ Rp gr gd C E vd bs w9 v1 rest f1 p1 f1 hi' ∧ bs.drop p1 = rest) := ⟨H8.out.1.keep HC.out hk9, H8.out.2.1.keep hk9, H8.out.2.2⟩
          clear hk9 hw9 H8 HQ d2
          go_wp2
          go_roundw
          case rel => exact ⟨i + 1, v1, ks', hs', zs', p1, hi', f1, by go_num, by omega, hzl', H9.out.1, by rw [H9.out.2.2]; exact H9.out.2.1⟩
          case measure => simp [intOf]; omega
    · go_wp2
      go_loopw [19] (fun jv wx => ∃ j : Nat, jv = .int .i64 j ∧ j ≤ zs.length ∧ Rl w gr gd C E bs wx (.slice ka zs.length kc) (.slice ha zs.length hcp) ks hs zs hi) (fun jv _ => zs.length - (intOf jv).toNat)
      case atStart => exact ⟨0, rfl, Nat.zero_le _, HX.out.1⟩
      case round =>
        clear HX
        obtain ⟨j, rfl, hjl, hL⟩ := hrel
        have HQ : Hid (Rl w gr gd C E bs wr (.slice ka zs.length kc) (.slice ha zs.length hcp) ks hs zs hi) := hL
        clear hL
        by_cases hlt3 : j < zs.length
        · have hjk : j < ks.length := by rw [HQ.out.klen]; exact hlt3
          have hjh : j < hs.length := by rw [HQ.out.hlen]; exact hlt3
          obtain ⟨kb, ko, rfl⟩ : ∃ kb ko, ka = some ⟨kb, ko, none⟩ := by
            obtain ⟨_, _, e, _, _, h3⟩ := sees_own HQ.out.kept
            simp at e
            obtain ⟨rfl, _, rfl⟩ := e
            rcases h3 with h3 | ⟨b, off, e', _⟩
            · subst h3; simp at hjk
            · exact ⟨b, off, e'⟩
          obtain ⟨hb', ho', rfl⟩ : ∃ hb' ho', ha = some ⟨hb', ho', none⟩ := by
            obtain ⟨_, _, e, _, _, h3⟩ := sees_own HQ.out.whole
            simp at e
            obtain ⟨rfl, _, rfl⟩ := e
            rcases h3 with h3 | ⟨b, off, e', _⟩
            · subst h3; simp at hjh
            · exact ⟨b, off, e'⟩
          have HD : Hid (∀ wx, Rl w gr gd C E bs wx (.slice (some ⟨kb, ko, none⟩) zs.length kc) (.slice (some ⟨hb', ho', none⟩) zs.length hcp) ks hs zs hi → wx.cell? ⟨kb, ko + j, none⟩ = some (.slice ks[j].ao ks[j].n ks[j].cap) ∧ wx.cell? ⟨hb', ho' + j, none⟩ = some (.slice hs[j].ao hs[j].n hs[j].cap) ∧ Sees wx (.slice ks[j].ao ks[j].n ks[j].cap) zs[j] ∧ Sees wx (.slice hs[j].ao hs[j].n hs[j].cap) zs[j]) := fun wx hx => by
            refine ⟨?_, ?_, (hx.kl j hlt3 hjk).sees, Sees.own (hx.hl j hlt3 hjh)⟩
            · obtain ⟨_, _, e, _, _, h3⟩ := sees_own hx.kept
              simp at e
              rcases h3 with h3 | ⟨b, off, e', _, h4⟩
              · subst h3; simp at hjk
              · rw [← e.1] at e'
                simp at e'
                obtain ⟨rfl, rfl⟩ := e'
                exact h4 j hjk
            · obtain ⟨_, _, e, _, _, h3⟩ := sees_own hx.whole
              simp at e
              rcases h3 with h3 | ⟨b, off, e', _, h4⟩
              · subst h3; simp at hjh
              · rw [← e.1] at e'
                simp at e'
                obtain ⟨rfl, rfl⟩ := e'
                exact h4 j hjh
          have HQd : Hid (Rl w gr gd C E bs wr.drew (.slice (some ⟨kb, ko, none⟩) zs.length kc) (.slice (some ⟨hb', ho', none⟩) zs.length hcp) ks hs zs hi) := HQ.out.keep HC.out ((Kept.refl _ _).drewN 1)
          obtain ⟨r1, r2, _, _⟩ := HD.out wr.drew HQd.out
          generalize ks[j] = pp at *
          generalize hs[j] = qq at *
          generalize zs[j] = zz at *
          obtain ⟨pa, pn, pc⟩ := pp
          obtain ⟨qa, qn, qc⟩ := qq
          simp only at r1 r2 HD
          go_wp2_with fail
          go_cut [20] from 90 to 106 (fun s wx => s = .bool true ∧ Rl w gr gd C E bs wx (.slice (some ⟨kb, ko, none⟩) zs.length kc) (.slice (some ⟨hb', ho', none⟩) zs.length hcp) ks hs zs hi)
          case first =>
            go_region_held (fun w' => w'.cell? ⟨kb, ko + j, none⟩ = some (.slice pa pn pc) ∧ w'.cell? ⟨hb', ho' + j, none⟩ = some (.slice qa qn qc)) (first | exact ⟨r1, r2⟩ | exact ⟨t1, t2⟩)
              (first
              | (go_at_call 8; refine (eqBytes_any _ _ zz zz _ (HD.out _ HQd.out).2.2.1 (HD.out _ HQd.out).2.2.2).mono ?_; rintro e w4 ⟨rfl, n4, hw4⟩; have HQ4 : Hid (Rl w gr gd C E bs w4 (.slice (some ⟨kb, ko, none⟩) zs.length kc) (.slice (some ⟨hb', ho', none⟩) zs.length hcp) ks hs zs hi) := (HQd.out.keep HC.out (by rw [hw4]; exact (Kept.refl _ _).drewN _)); obtain ⟨t1, t2, _, _⟩ := HD.out w4 HQ4.out; have ed : decide (zz = zz) = true := decide_eq_true rfl; rw [ed]; clear hw4 ed))
            all_goals (go_wp2_with fail)
            all_goals go_meet
            all_goals exact ⟨rfl, HQ4.out⟩
          case rest =>
            obtain ⟨rfl, hT8⟩ := hcut
            have HQ8 : Hid (Rl w gr gd C E bs _ (.slice (some ⟨kb, ko, none⟩) zs.length kc) (.slice (some ⟨hb', ho', none⟩) zs.length hcp) ks hs zs hi) := hT8
            clear hT8 r1 r2
            go_wp2
            go_roundw
            case rel => exact ⟨j + 1, by go_num, by omega, HQ8.out⟩
            case measure => simp [intOf]; omega
        · have hkl := HQ.out.klen
          have hsz : w0.heap.size ≤ wr.heap.size := by have h1 := HS.out.2.2.size; have h2 := HQ.out.rel.size; omega
          have hadd := addPieces_one w.heap.size w0.heap.size ka kc ks wr ⟨HQ.out.bag, World.ownsRow_nil _ _ _ _, World.ownsRow_nil _ _ _ _⟩ (by have h := sees_own HQ.out.kept; obtain ⟨a1, a2, e, a3⟩ := h; simp only [Value.slice.injEq] at e; obtain ⟨rfl, _, rfl⟩ := e; exact ⟨_, _, rfl, a3⟩) hsz
          rw [hkl] at hadd
          go_wp2_with fail
          refine hadd.mono ?_
          clear hadd
          rintro e w3 ⟨rfl, bv, pv, hbag, hk3⟩
          have HL : Hid ((∀ q ∈ ks.take 600, Lies w3 5 q) ∧ ApartPcs (ks.take 600) ∧ (∀ q ∈ ks.take 600, q.n ≤ 70000000000000) ∧ Lies w3 22 ⟨ka, zs.length, kc⟩ ∧ (∀ k x, feet (ks.take 600) k x → w0.heap.size ≤ k) ∧ (∀ k x, (⟨ka, zs.length, kc⟩ : Pc).foot k x → w0.heap.size ≤ k) ∧
              ∀ w4, Turned w3 w4 (fun k i => feet (ks.take 600) k i ∨ (⟨ka, zs.length, kc⟩ : Pc).foot k i) → Kept w w4 (fun k => k = gr ∨ k = gd ∨ (bs ≠ [] ∧ k = C))) := by
            have h := HQ.out
            rw [← hkl] at h hbag ⊢
            exact h.bagged HC.out rfl hbag hk3 HS.out.2.2.size HLO.out.2.2 hEm
          have hb3 : Below w0.heap.size w0 w3 := HS.out.2.2.trans ((HQ.out.rel.trans hk3 (S' := fun k => k = w.heap.size) (fun k hk e => by omega)).below HS.out.2.2.size (fun k e => by
            rcases e with e | e | ⟨hb, e⟩
            · rw [e]; exact HLO.out.1
            · rw [e]; exact HLO.out.2.1
            · rw [e]; exact HLO.out.2.2 hb))
          have HT : Hid (Tab w3 ∧ BagIs w3 w.heap.size bv pv (ks.take 600) [⟨ka, zs.length, kc⟩] w0.heap.size ∧ w0.heap.size ≤ w3.heap.size) := ⟨Tab.same HS.out.2.1 (hb3.block _ hg0), hbag, hb3.size⟩
          clear hbag hk3 hb3 hkl hsz HQ
          go_wp2_with fail
          refine (bagApart_at w.heap.size w0.heap.size bv pv (ks.take 600) ⟨ka, zs.length, kc⟩ _ HT.out.2.1 HL.out.1 HL.out.2.1 (by rw [List.length_take]; omega) HL.out.2.2.1 HL.out.2.2.2.1 (by show zs.length ≤ 1000000000; omega) HT.out.1 hg0 HT.out.2.2 HL.out.2.2.2.2.1 HL.out.2.2.2.2.2.1).mono ?_
          rintro e w4 ⟨rfl, ht4⟩
          have HE : Hid _ := HL.out.2.2.2.2.2.2 w4 ht4
          clear ht4
          go_wp2
          go_ret
          exact ⟨rfl, HE.out⟩
end Rz
end Go.Proofs.YtblgipjipeaemaaGreatDoor
