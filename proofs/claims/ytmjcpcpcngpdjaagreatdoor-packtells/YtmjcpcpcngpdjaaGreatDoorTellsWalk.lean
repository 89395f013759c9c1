/- The walk of PackTells: for every list of calls it answers true. -/
import Derived.Test.YtmjcpcpcngpdjaaGreatDoorTells2
import Derived.Test.YtmjcpcpcngpdjaaGreatDoorOpsOpen
import Derived.Test.YtmjcpcpcngpdjaaGreatDoorWorks
import Derived.Test.YtmjcpcpcngpdjaaGreatDoorJoined
import Derived.Deep.RegionHeld
import Derived.Deep.CutRange
namespace Go.Proofs.YtmjcpcpcngpdjaaGreatDoor
open Go.ChangeShapes Go.WideShapes Go.ChangeAt Go.RowKit
set_option maxRecDepth 8000
namespace packTells

theorem SeesOp.below {B : Nat} {w w' : World} {b off : Nat} {o : OpD} (h : SeesOp w b off o) (hb : Below B w w') (hB : w.heap.size ≤ B) : SeesOp w' b off o :=
  ⟨cell_later h.c0 hb hB, cell_later h.c1 hb hB, cell_later h.c2 hb hB, cell_later h.c3 hb hB, cell_later h.c4 hb hB, cell_later h.c5 hb hB, h.sb, h.yb⟩

theorem SeesOps.below {B : Nat} {w w' : World} {v : Value} {os : List OpD} (h : SeesOps w v os) (hb : Below B w w') (hB : w.heap.size ≤ B) : SeesOps w' v os := by
  obtain ⟨ao, cap, rfl, h1, h2, h3⟩ := h
  refine ⟨ao, cap, rfl, h1, h2, ?_⟩
  rcases h3 with h3 | ⟨b, off, rfl, h3⟩
  · exact .inl h3
  · exact .inr ⟨b, off, rfl, fun i hi => SeesOp.below (h3 i hi) hb hB⟩

theorem and1 (n : Int) : ∃ b : Bool, bits .and .i64 n 1 = (ix b : Int) := by
  have h : bits .and .i64 n 1 = 0 ∨ bits .and .i64 n 1 = 1 := by
    unfold bits
    have e : (BitVec.ofInt 64 n &&& BitVec.ofInt 64 1).toNat = (BitVec.ofInt 64 n).toNat % 2 := by
      rw [BitVec.toNat_and]
      show (BitVec.ofInt 64 n).toNat &&& 1 = _
      exact Nat.and_one_is_mod _
    show IntKind.i64.wrap ((BitVec.ofInt 64 n &&& BitVec.ofInt 64 1).toNat : Int) = 0 ∨ _
    rw [e]
    have h2 : (BitVec.ofInt 64 n).toNat % 2 = 0 ∨ (BitVec.ofInt 64 n).toNat % 2 = 1 := by omega
    rcases h2 with h2 | h2
    · left; rw [h2]; rfl
    · right
      show IntKind.i64.wrap ((BitVec.ofInt 64 n &&& BitVec.ofInt 64 1).toNat : Int) = 1
      rw [e, h2]; rfl
  rcases h with h | h
  · exact ⟨false, h⟩
  · exact ⟨true, h⟩

/-- The two Writers' blocks. -/
def wsAt (N : Nat) : Bool → Nat := fun b => if b then N + 3 else N + 2

theorem tells_start (w w2 : World) (h : Below w.heap.size w w2) :
    Tells w w2.heap.size (w2.heap.size + 1) (w2.heap.size + 4) (wsAt w2.heap.size)
      (((((w2.alloc (.cells #[.pointer (some ⟨w2.heap.size + 1 + 1, 0, none⟩), .pointer (some ⟨w2.heap.size + 1 + 1 + 1, 0, none⟩)] 26)).alloc (.cells #[nilS, nilS] 28)).alloc (.cells #[nilS] 30)).alloc (.cells #[nilS] 30)).alloc (.cells (bagCells nilS nilS) 54))
      (fun _ => nilS) (fun _ => nilS) (fun _ => []) (fun _ => []) nilS nilS [] [] [] [] := by
  have hsz := h.size
  have at' : ∀ (u : World) (o : Obj) (k : Nat) (p : Obj), u.heap[k]? = some p → (u.alloc o).heap[k]? = some p := fun u o k p hk => ((Kept.refl u (fun _ => False)).alloc o).heap hk (fun h => h)
  have new' : ∀ (u : World) (o : Obj) (k : Nat), u.heap.size = k → (u.alloc o).heap[k]? = some o := fun u o k e => by subst e; exact heap_alloc_new u o
  have nown : ∀ (u : World), Owns u w.heap.size nilS [] := fun u => World.ownsRow_nil _ _ _ _
  exact
  { a := at' _ _ _ _ (at' _ _ _ _ (at' _ _ _ _ (at' _ _ _ _ (new' _ _ _ rfl))))
    d' := at' _ _ _ _ (at' _ _ _ _ (at' _ _ _ _ (new' _ _ _ (by simp))))
    isW := fun b => by
      cases b
      · exact ⟨at' _ _ _ _ (at' _ _ _ _ (new' _ _ _ (by simp [wsAt]))), World.ownsRow_nil _ _ _ _⟩
      · exact ⟨at' _ _ _ _ (new' _ _ _ (by simp [wsAt])), World.ownsRow_nil _ _ _ _⟩
    own := fun b => nown _
    bag := ⟨new' _ _ _ (by simp), World.ownsRow_nil _ _ _ _, World.ownsRow_nil _ _ _ _⟩
    kept := World.ownsRow_nil _ _ _ _
    whole := World.ownsRow_nil _ _ _ _
    klen := rfl
    hlen := rfl
    klook := fun j hj => by simp at hj
    hlook := fun j hj => by simp at hj
    apart := fun i j hi => by simp at hi
    kfar := fun p hp => by simp at hp
    hfar := fun p hp => by simp at hp
    dfar := fun b k hk => by simp [Value.ownBlock] at hk
    kh := fun k hk => by simp [Value.ownBlock] at hk
    wne := by simp [wsAt]
    vne := fun b c _ k hk => by simp [Value.ownBlock] at hk
    vlow := fun b k hk => by simp [Value.ownBlock] at hk
    wlow := fun b => by cases b <;> simp [wsAt] <;> omega
    alow := hsz
    dlow := by omega
    glow := by omega
    below := ((((h.alloc hsz _).alloc (by simp; omega) _).alloc (by simp; omega) _).alloc (by simp; omega) _).alloc (by simp; omega) _ }

theorem opLen' (sd : List OpD) : sd.length ≤ opSum sd := by
  induction sd with
  | nil => simp [opSum]
  | cons o r ih => simp only [List.length_cons, opSum, OpD.size]; omega

theorem tells_far {w wr : World} {A D G : Nat} {W : Bool → Nat} {v d : Bool → Value} {xs ys : Bool → List Int} {kv hv : Value} {ks hs : List Pc} {zs hz : List (List Int)} (h : Tells w A D G W wr v d xs ys kv hv ks hs zs hz) (b : Bool) {yb : List Int} {u : Value} (hap : yb ≠ [] → ∀ k, u.ownBlock = some k → k < w.heap.size) {g : Nat} (hg : W b = g) :
    yb ≠ [] → ∀ k, u.ownBlock = some k → k ≠ g ∧ (v b).ownBlock ≠ some k := by
  intro hy k hk
  have h1 := hap hy k hk
  refine ⟨fun e => ?_, fun e => ?_⟩
  · have := h.wlow b; omega
  · have := h.vlow b k e; omega

set_option maxHeartbeats 6000000 in
theorem walk (a : Option Addr) (os : List OpD) (cap : Nat) (w : World) (hs : SeesOps w (.slice a os.length cap) os) (hg : ∀ o ∈ os, GoodOp w o) (ht : Tab w) (hg0 : 1 < w.heap.size) :
    Calls Tryz.prog 3 #[.slice a os.length cap] w fun e w' => e = .returned (.bool true) ∧ Below w.heap.size w w' := by
  have HS : Hid (SeesOps w (.slice a os.length cap) os ∧ (∀ o ∈ os, GoodOp w o) ∧ Tab w) := ⟨hs, hg, ht⟩
  have q1 : os.length ≤ cap ∧ cap ≤ 9223372036854775807 := by
    obtain ⟨_, _, e, h1, h2, _⟩ := hs; simp at e; obtain ⟨_, rfl⟩ := e; unfold maxLen at h2; omega
  obtain ⟨q3, q4⟩ := q1
  clear hs hg ht
  obtain ⟨i1, gi, gz0, gz1, gz2⟩ := info_parts Tryz.infoBytes
  have hsf := store_float
  go_enter Tryz.func3, Tryz.ntmps3
  go_wp2_with fail
  refine (works_any _).mono ?_
  rintro e w1 ⟨rfl, hb1⟩
  have HB1 : Hid (Below w.heap.size w w1) := hb1
  clear hb1
  go_wp2_with fail
  refine (long_any _ os _ (SeesOps.below HS.out.1 HB1.out (Nat.le_refl _))).mono ?_
  rintro e w2 ⟨r, rfl, hr, m2, hw2⟩
  have HB2 : Hid (Below w.heap.size w w2) := by
    have hk : Kept w1 w2 (fun _ => False) := by rw [hw2]; exact (Kept.refl _ _).drewN _
    exact HB1.out.trans (hk.below HB1.out.size (fun _ h => h.elim))
  have HR : Hid (r = false → opSum os ≤ 67108864) := hr
  clear hw2 HB1 hr
  cases r with
  | true =>
    go_wp2
    go_ret
    exact ⟨rfl, HB2.out⟩
  | false =>
    have hsum := HR.out rfl
    clear HR
    go_wp2
    have hstart := tells_start w w2 HB2.out
    have HT0 : Hid _ := hstart
    clear hstart
    have hn2 : w.heap.size ≤ w2.heap.size := HB2.out.size
    generalize hN : w2.heap.size = N at *
    go_loopw [7, 8, 9] (fun kv hv iv wr => ∃ (i : Nat) (v d : Bool → Value) (xs : Bool → List Int) (ks hs : List Pc) (zs : List (List Int)), iv = .int .i64 i ∧ i ≤ os.length ∧ (∀ b, (xs b).length ≤ 8 * opSum (os.take i)) ∧ zs.length ≤ i ∧ (∀ z ∈ zs, z.length ≤ 8 * opSum os) ∧ Tells w N (N + 1) (N + 4) (wsAt N) wr v d xs xs kv hv ks hs zs zs) (fun _ _ iv _ => os.length - (intOf iv).toNat)
    case atStart => exact ⟨0, _, _, _, _, _, [], rfl, Nat.zero_le _, fun b => Nat.zero_le _, Nat.zero_le _, fun z hz => by simp at hz, HT0.out⟩
    case round =>
      clear HT0
      obtain ⟨i, v, d, xs, ks, hs, zs, rfl, hil, hxl, hzl, hzb, hT⟩ := hrel
      have HT : Hid (Tells w N (N + 1) (N + 4) (wsAt N) wr v d xs xs u7 u8 ks hs zs zs ∧ (∀ b, (xs b).length ≤ 8 * opSum (os.take i)) ∧ zs.length ≤ i ∧ (∀ z ∈ zs, z.length ≤ 8 * opSum os)) := ⟨hT, hxl, hzl, hzb⟩
      clear hT hxl hzl hzb
      by_cases hlt : i < os.length
      · obtain ⟨b, off, rfl, hops⟩ : ∃ b off, a = some ⟨b, off, none⟩ ∧ SeesOp w b (off + i * 6) os[i] := by
          obtain ⟨_, _, e, _, _, h3⟩ := HS.out.1
          simp at e
          obtain ⟨rfl, rfl⟩ := e
          rcases h3 with h3 | ⟨b, off, e, h3⟩
          · subst h3; simp at hlt
          · exact ⟨b, off, e, h3 i hlt⟩
        have hsee := SeesOp.below hops HT.out.1.below (Nat.le_refl _)
        have hgood := HS.out.2.1 os[i] (List.getElem_mem hlt)
        have hnext := opSum_next hlt
        have htake := opSum_take os (i + 1)
        generalize hoi : os[i] = o at *
        obtain ⟨kind, on, n, x, s, oa, oc, yb⟩ := o
        obtain ⟨c0, c1, c2, c3, c4, c5, sb, ybd⟩ := hsee
        simp only [OpD.size] at hnext
        simp only at c0 c1 c2 c3 c4 c5 sb ybd
        obtain ⟨bb, hbb⟩ := and1 on
        have HG : Hid (Sees wr (.slice oa yb.length oc) yb ∧ Fits n x s yb) := ⟨hgood.see.below HT.out.1.below (Nat.le_refl _), hgood.n0, hgood.n1, hgood.x1, by omega, by omega⟩
        have HN : Hid (opSum (os.take (i + 1)) = opSum (os.take i) + (1 + s.size + yb.length)) := hnext
        have aC := HT.out.1.aCell bb
        have hix : ix bb = 0 ∨ ix bb = 1 := by cases bb; exact .inl rfl; exact .inr rfl
        have HAP : Hid (yb ≠ [] → ∀ k, (Value.slice oa yb.length oc).ownBlock = some k → k < w.heap.size) := fun hy k hk => by
          have hsee := hgood.see
          simp only at hsee
          obtain ⟨_, _, e, _, _, _, h3⟩ := hsee
          simp at e
          rcases h3 with h3 | ⟨b', off', e', h3⟩
          · exact absurd h3 hy
          · rw [← e.1] at e'
            rw [e'] at hk
            simp [Value.ownBlock] at hk
            subst hk
            exact World.block_lt_of_cell? w _ (h3 0 (List.length_pos_iff.2 hy))
        have HO : Hid (SeesOp w b (off + i * 6) ⟨kind, on, n, x, s, oa, oc, yb⟩) := hops
        clear hgood hops hnext hoi
        have HIX : Hid (ix bb = ix bb) := rfl
        have hxb := HT.out.2.1
        have HXB : Hid (∀ b, (xs b).length ≤ 8 * opSum (os.take i)) := hxb
        clear hxb
        have hel := encK_len kind n x s yb
        have hxbb := HXB.out bb
        have hlenb : (xs bb ++ encK kind n x s yb).length ≤ 8 * opSum (os.take (i + 1)) := by rw [List.length_append, HN.out]; omega
        have HLB : Hid ((xs bb ++ encK kind n x s yb).length ≤ 8 * opSum (os.take (i + 1))) := hlenb
        have hlenc : (xs bb ++ encK kind n x s yb).length ≤ 8 * 67108864 := by omega
        clear hlenb hel hxbb
        have hii : ix bb < 2 := by omega
        have HS0 : Hid (∀ w', Below w.heap.size w w' → w'.cell? ⟨N, ix bb, none⟩ = some (.pointer (some ⟨wsAt N bb, 0, none⟩)) → w'.cell? ⟨N, ix bb, none⟩ = some (.pointer (some ⟨wsAt N bb, 0, none⟩)) ∧ w'.cell? ⟨b, off + i * 6, none⟩ = some (.int .i64 kind) ∧ w'.cell? ⟨b, off + i * 6 + 1, none⟩ = some (.int .i64 on) ∧ w'.cell? ⟨b, off + i * 6 + 2, none⟩ = some (.int .i64 n) ∧ w'.cell? ⟨b, off + i * 6 + 3, none⟩ = some (.float .f64 x) ∧ w'.cell? ⟨b, off + i * 6 + 4, none⟩ = some (.string s) ∧ w'.cell? ⟨b, off + i * 6 + 5, none⟩ = some (.slice oa yb.length oc)) := fun w' hb' ha => by
          have q := SeesOp.below HO.out hb' (Nat.le_refl _)
          exact ⟨ha, q.c0, q.c1, q.c2, q.c3, q.c4, q.c5⟩
        have hS0 := HS0.out wr.drew HT.out.1.below.drew aC
        generalize hixe : ix bb = ii at *
        generalize hwse : wsAt N bb = gw at *
        have HE : Hid (ix bb = ii ∧ wsAt N bb = gw) := ⟨hixe, hwse⟩
        clear hixe hwse
        go_wp2_with fail
        go_cut [11, 12] from 32 to 116 (fun u t w3 => t = .bool true ∧ ∃ v' ao' n' c', u = .slice ao' n' c' ∧ Sees w3 u (encK kind n x s yb) ∧ Tells w N (N + 1) (N + 4) (wsAt N) w3 (upd v bb v') d (upd xs bb (xs bb ++ encK kind n x s yb)) xs u7 u8 ks hs zs zs)
        case first =>
          go_region_held (fun w' => w'.cell? ⟨N, ii, none⟩ = some (.pointer (some ⟨gw, 0, none⟩)) ∧ w'.cell? ⟨b, off + i * 6, none⟩ = some (.int .i64 kind) ∧ w'.cell? ⟨b, off + i * 6 + 1, none⟩ = some (.int .i64 on) ∧ w'.cell? ⟨b, off + i * 6 + 2, none⟩ = some (.int .i64 n) ∧ w'.cell? ⟨b, off + i * 6 + 3, none⟩ = some (.float .f64 x) ∧ w'.cell? ⟨b, off + i * 6 + 4, none⟩ = some (.string s) ∧ w'.cell? ⟨b, off + i * 6 + 5, none⟩ = some (.slice oa yb.length oc)) (first | exact hS0 | exact hS3)
            (first
            | (go_at_call 7; refine (put_every kind gw (v bb) (xs bb) yb on n x s oa oc _ ?_ ?_ ?_ ?_ ?_).mono ?_; (rw [← HE.out.2]; exact (HT.out.1.isW bb).drew); exact HG.out.1.kept ((Kept.refl _ _).drewN 1) (fun _ _ h => h); exact (tells_far HT.out.1 bb HAP.out HE.out.2); exact HG.out.2; omega; rintro e w3 ⟨u, rfl, hp⟩; have hT3 := HT.out.1.put bb (w1 := w3) (ws := xs bb ++ encK kind n x s yb) (by rw [HE.out.2]; exact hp.2.2.of_drew); obtain ⟨v', hT3⟩ := hT3; have hS3 := HS0.out w3 hT3.below (by have := hT3.aCell bb; rw [HE.out.1, HE.out.2] at this; exact this); have HP : Hid (Sees w3 u (encK kind n x s yb) ∧ Tells w N (N + 1) (N + 4) (wsAt N) w3 (upd v bb v') d (upd xs bb (xs bb ++ encK kind n x s yb)) xs u7 u8 ks hs zs zs) := ⟨hp.1, hT3⟩; obtain ⟨ao', n', c', rfl⟩ := sees_shape hp.1; clear hp hT3))
          all_goals (go_wp2_with fail)
          all_goals go_meet
          all_goals exact ⟨rfl, v', _, _, _, rfl, HP.out.1, HP.out.2⟩
        case rest =>
          obtain ⟨rfl, v', ao', n', c', rfl, hsu, hT3⟩ := hcut
          have HT3 : Hid (Sees wc (.slice ao' n' c') (encK kind n x s yb) ∧ Tells w N (N + 1) (N + 4) (wsAt N) wc (upd v bb v') d (upd xs bb (xs bb ++ encK kind n x s yb)) xs u7 u8 ks hs zs zs) := ⟨hsu, hT3⟩
          have dC := hT3.dCell bb
          rw [HE.out.1] at dC
          clear hsu hT3 hS0 aC c0 c1 c2 c3 c4 c5
          go_wp2_with fail
          refine (joined_any (d bb) _ (xs bb) (encK kind n x s yb) _ (Sees.own (HT3.out.2.own bb)) HT3.out.1 (by rw [List.length_append] at hlenc; omega)).mono ?_
          rintro e w4 ⟨u4, rfl, ho4, hb4⟩
          have hT4 := HT3.out.2.new (news hb4)
          have hT5 := hT4.want bb (owns_mono ho4 HT3.out.2.below.size) (fun k hk c e => by
            have h1 := (ho4.lt k hk).1
            have h2 := (own_row (HT3.out.2.isW c).2 e).2.2
            omega)
          rw [HE.out.1] at hT5
          have dC4 := hT4.dCell bb
          rw [HE.out.1] at dC4
          have dF4 := frozen_of_row w4 (N + 1) ii _ _ hT4.d'
          obtain ⟨ua, un, uc, rfl⟩ := owns_shape ho4
          have c05 := (SeesOp.below HO.out hT5.below (Nat.le_refl _)).c0
          simp only at c05
          have HT5 : Hid (Tells w N (N + 1) (N + 4) (wsAt N) (w4.setCell ⟨N + 1, ii, none⟩ (.slice ua un uc)) (upd v bb v') (upd d bb (.slice ua un uc)) (upd xs bb (xs bb ++ encK kind n x s yb)) (upd xs bb (xs bb ++ encK kind n x s yb)) u7 u8 ks hs zs zs) := hT5
          have HLN : Hid (∀ c, (upd xs bb (xs bb ++ encK kind n x s yb) c).length ≤ 8 * opSum (os.take (i + 1))) := fun c => by
            by_cases hc : c = bb
            · subst hc; rw [upd_same]; exact HLB.out
            · rw [upd_other _ _ _ _ hc]; have := HXB.out c; rw [HN.out]; omega
          clear hT4 hT5 ho4 hb4 HT3 dC
          generalize hw5 : w4.setCell ⟨N + 1, ii, none⟩ (.slice ua un uc) = w5 at *
          by_cases h10 : kind = 10
          · subst h10
            have aC5 := HT5.out.aCell bb
            rw [HE.out.1, HE.out.2] at aC5
            have dC5 := HT5.out.dCell bb
            rw [HE.out.1] at dC5
            have hW5 := HT5.out.isW bb
            rw [HE.out.2, upd_same xs] at hW5
            have hO5 := HT5.out.own bb
            rw [upd_same xs] at hO5
            rw [upd_same d] at dC5 hO5
            generalize xs bb ++ encK 10 n x s yb = ws at *
            obtain rfl : un = ws.length := by
              obtain ⟨_, _, e, _⟩ := Sees.own hO5
              simp at e; exact e.2.1
            have HW5 : Hid (IsW w5 gw (upd v bb v' bb) ws ∧ Owns w5 w.heap.size (.slice ua ws.length uc) ws) := ⟨hW5, hO5⟩
            clear hW5 hO5
            go_wp2_with fail
            clear dC4 dF4
            refine (wLen_any gw _ ws _ HW5.out.1).mono ?_
            rintro e w5' ⟨rfl, rfl⟩
            go_wp2_with fail
            refine (wBytes_any gw _ ws _ HW5.out.1 (by omega)).mono ?_
            rintro e w6 ⟨pa, rfl, ho6, hb6⟩
            have HT6 : Hid (Tells w N (N + 1) (N + 4) (wsAt N) w6 (upd v bb v') (upd d bb (.slice ua ws.length uc)) (upd xs bb ws) (upd xs bb ws) u7 u8 ks hs zs zs ∧ Owns w6 w5'.heap.size pa ws ∧ IsW w6 gw (upd v bb v' bb) ws ∧ Owns w6 w.heap.size (.slice ua ws.length uc) ws) := ⟨HT5.out.new (news hb6), ho6, HW5.out.1.kept (news hb6) (fun h => h) (fun _ _ h => h), Owns.kept HW5.out.2 (news hb6) (fun _ _ h => h)⟩
            have aC6 := (news hb6).cell aC5 (fun h => h)
            obtain ⟨xa, xn, xc, rfl⟩ := owns_shape ho6
            have hz5 := HT5.out.below.size
            clear ho6 hb6 aC5
            go_wp2_with fail
            refine (wBytes_any gw _ ws _ HT6.out.2.2.1 (by omega)).mono ?_
            rintro e w7 ⟨pc, rfl, ho7, hb7⟩
            have HT7 : Hid (Tells w N (N + 1) (N + 4) (wsAt N) w7 (upd v bb v') (upd d bb (.slice ua ws.length uc)) (upd xs bb ws) (upd xs bb ws) u7 u8 ks hs zs zs ∧ Owns w7 w5'.heap.size (.slice xa xn xc) ws ∧ Owns w7 w6.heap.size pc ws ∧ Owns w7 w.heap.size (.slice ua ws.length uc) ws) := ⟨HT6.out.1.new (news hb7), Owns.kept HT6.out.2.1 (news hb7) (fun _ _ h => h), ho7, Owns.kept HT6.out.2.2.2 (news hb7) (fun _ _ h => h)⟩
            obtain ⟨ya, yn, yc, rfl⟩ := owns_shape ho7
            have dC7 := HT7.out.1.dCell bb
            rw [HE.out.1, upd_same d] at dC7
            clear ho7 hb7 aC6 dC5
            go_wp2_with fail
            refine (eqBytes_any _ _ ws ws _ (Sees.own HT7.out.2.1) (Sees.own HT7.out.2.2.2)).mono ?_
            rintro e w8 ⟨rfl, n8, hw8⟩
            have ed : decide (ws = ws) = true := by simp
            rw [ed]
            clear ed
            have hk8 : Kept w7 w8 (fun _ => False) := by rw [hw8]; exact (Kept.refl w7 _).drewN _
            have HK8 : Hid (Kept w7 w8 (fun _ => False)) := hk8
            have dC8 := hk8.cell dC7 (fun h => h)
            clear hk8 hw8 dC7
            go_wp2_with fail
            refine (eqBytes_any _ _ ws ws _ (Sees.own (Owns.kept HT7.out.2.2.1 HK8.out (fun _ _ h => h))) (Sees.own (Owns.kept HT7.out.2.2.2 HK8.out (fun _ _ h => h)))).mono ?_
            rintro e w9 ⟨rfl, n9, hw9⟩
            have ed : decide (ws = ws) = true := by simp
            rw [ed]
            clear ed
            have hk9 : Kept w7 w9 (fun _ => False) := by rw [hw9]; exact HK8.out.drewN _
            have HT9 : Hid (Tells w N (N + 1) (N + 4) (wsAt N) w9 (upd v bb v') (upd d bb (.slice ua ws.length uc)) (upd xs bb ws) (upd xs bb ws) u7 u8 ks hs zs zs ∧ Owns w9 w5'.heap.size (.slice xa xn xc) ws ∧ Owns w9 w6.heap.size (.slice ya yn yc) ws) := ⟨HT7.out.1.new hk9, Owns.kept HT7.out.2.1 hk9 (fun _ _ h => h), Owns.kept HT7.out.2.2.1 hk9 (fun _ _ h => h)⟩
            clear hk9 hw9 dC8 HK8
            go_wp2_with fail
            refine (spoil_own HT9.out.2.2 (by omega)).mono ?_
            rintro e w10 ⟨rfl, hk10⟩
            have hk10' : Kept w9 w10 (fun k => w6.heap.size ≤ k) := hk10.mono (fun k _ e => (HT9.out.2.2.lt k e).1)
            have hT10 := HT6.out.1.high HT9.out.1 hk10'
            have HT10 : Hid (Tells w N (N + 1) (N + 4) (wsAt N) w10 (upd v bb v') (upd d bb (.slice ua ws.length uc)) (upd xs bb ws) (upd xs bb ws) u7 u8 ks hs zs zs ∧ Owns w10 w5'.heap.size (.slice xa xn xc) ws) := ⟨hT10, Owns.kept HT9.out.2.1 hk10' (fun k hk => by have := (HT6.out.2.1.lt k hk).2; omega)⟩
            have hz10 := hT10.below.size
            have hkl : ks.length ≤ 67108864 := by have := HT.out.2.2.1; have := hT10.klen; have := opLen' os; omega
            have hhl : hs.length ≤ 67108864 := by have := HT.out.2.2.1; have := hT10.hlen; have := opLen' os; omega
            clear hk10 hk10' hT10
            go_wp2_with (at_builtin; refine wpList_append_own_at _ rfl (.tmp 106) (.tmp 108) 32 rfl w.heap.size 27 i1 _ 1 24 Tryz.underlying32 gi gz0 gz1 gz2 rfl (by decide) u7 ks.length (ks.map Pc.val) rfl (ownsRow_kept' HT10.out.1.kept ((Kept.refl w10 (fun _ => False)).alloc _) (fun _ _ h => h)) ⟨w10.heap.size, 0, none⟩ 1 1 [.slice xa xn xc] rfl rfl (new_cell1 _ _ _) ?one (by unfold maxLen; omega) (by omega) (by simp; omega) ?_)
            case one => intro u hu; simp at hu; subst hu; rfl
            intro kv' w11 hown hgrow _ hat
            have hT11 : Tells w N (N + 1) (N + 4) (wsAt N) w11 (upd v bb v') (upd d bb (.slice ua ws.length uc)) (upd xs bb ws) (upd xs bb ws) kv' u8 (ks ++ [⟨xa, xn, xc⟩]) hs (zs ++ [ws]) zs :=
              HT10.out.1.pushK (p := ⟨xa, xn, xc⟩) (owns_mono HT10.out.2 hz5) (fun k hk c e => by
                have h1 := (HT6.out.2.1.lt k hk).1
                have h2 := (own_row (HT5.out.isW c).2 e).2.2
                omega) (fun q hq k hk e => by
                have h1 := (HT6.out.2.1.lt k e).1
                have h2 := (HT5.out.klow q hq k hk).2.2
                omega) hown (((Kept.refl w10 _).alloc _).trans (kept_grown hgrow (fun k e => e)) (fun _ _ h => h)) (fun k e => by
                rcases hat with q | q
                · rw [q] at e; exact .inl e
                · rw [q] at e; simp at e; exact .inr (by omega))
            have dC11 := hT11.dCell bb
            rw [HE.out.1, upd_same d] at dC11
            have HT11 : Hid (Tells w N (N + 1) (N + 4) (wsAt N) w11 (upd v bb v') (upd d bb (.slice ua ws.length uc)) (upd xs bb ws) (upd xs bb ws) kv' u8 (ks ++ [⟨xa, xn, xc⟩]) hs (zs ++ [ws]) zs) := hT11
            have ho11 := hT11.own bb
            rw [upd_same d, upd_same xs] at ho11
            have HO11 : Hid (Owns w11 w.heap.size (.slice ua ws.length uc) ws) := ho11
            clear hown hgrow hat hT11 ho11
            go_wp2_with fail
            refine (copyBytes_any _ ws _ (Sees.own HO11.out) (by omega)).mono ?_
            rintro e w12 ⟨ph, rfl, ho12, hb12⟩
            obtain ⟨za, zn, zc, rfl⟩ := owns_shape ho12
            have HT12 : Hid (Tells w N (N + 1) (N + 4) (wsAt N) w12 (upd v bb v') (upd d bb (.slice ua ws.length uc)) (upd xs bb ws) (upd xs bb ws) kv' u8 (ks ++ [⟨xa, xn, xc⟩]) hs (zs ++ [ws]) zs ∧ Owns w12 w11.heap.size (.slice za zn zc) ws) := ⟨HT11.out.new (news hb12), ho12⟩
            have hz12 := HT12.out.1.below.size
            have hz11 := HT11.out.below.size
            clear ho12 hb12 dC11
            go_wp2_with (at_builtin; refine wpList_append_own_at _ rfl (.tmp 110) (.tmp 115) 32 rfl w.heap.size 27 i1 _ 1 24 Tryz.underlying32 gi gz0 gz1 gz2 rfl (by decide) u8 hs.length (hs.map Pc.val) rfl (ownsRow_kept' HT12.out.1.whole ((Kept.refl w12 (fun _ => False)).alloc _) (fun _ _ h => h)) ⟨w12.heap.size, 0, none⟩ 1 1 [.slice za zn zc] rfl rfl (new_cell1 _ _ _) ?one (by unfold maxLen; omega) (by omega) (by simp; omega) ?_)
            case one => intro u hu; simp at hu; subst hu; rfl
            intro hv' w13 hown hgrow _ hat
            have HT13 : Hid (Tells w N (N + 1) (N + 4) (wsAt N) w13 (upd v bb v') (upd d bb (.slice ua ws.length uc)) (upd xs bb ws) (upd xs bb ws) kv' hv' (ks ++ [⟨xa, xn, xc⟩]) (hs ++ [⟨za, zn, zc⟩]) (zs ++ [ws]) (zs ++ [ws])) :=
              HT12.out.1.pushH (p := ⟨za, zn, zc⟩) (owns_mono HT12.out.2 hz11) (fun k hk c e => by
                have h1 := (HT12.out.2.lt k hk).1
                have h2 := (own_row (HT11.out.isW c).2 e).2.2
                omega) hown (((Kept.refl w12 _).alloc _).trans (kept_grown hgrow (fun k e => e)) (fun _ _ h => h)) (fun k e => by
                rcases hat with q | q
                · rw [q] at e; exact .inl e
                · rw [q] at e; simp at e; exact .inr (by omega))
            clear hown hgrow hat
            go_wp2
            go_roundw
            case rel =>
              refine ⟨i + 1, _, _, _, _, _, zs ++ [ws], by go_num, by omega, HLN.out, by have := HT.out.2.2.1; simp; omega, fun z hz => ?_, HT13.out⟩
              rcases List.mem_append.1 hz with hz | hz
              · exact HT.out.2.2.2 z hz
              · simp at hz
                subst hz
                have := HLB.out
                have := opSum_take os (i + 1)
                omega
            case measure => simp [intOf]; omega
          · have hne : (kind == 10) = false := by simp [h10]
            go_wp2
            go_roundw
            case rel => exact ⟨i + 1, _, _, _, _, _, zs, by go_num, by omega, HLN.out, by have := HT.out.2.2.1; omega, HT.out.2.2.2, HT5.out⟩
            case measure => simp [intOf]; omega
      · obtain rfl : i = os.length := by omega
        have hos := opLen' os
        have HT' : Hid (Tells w N (N + 1) (N + 4) (wsAt N) wr v d xs xs u7 u8 ks hs zs zs ∧ (∀ z ∈ zs, z.length ≤ 8 * opSum os)) := ⟨HT.out.1, HT.out.2.2.2⟩
        have hkl : ks.length ≤ 67108864 := by have := HT.out.2.2.1; have := HT.out.1.klen; omega
        have hxl : ∀ c, (xs c).length ≤ 536870912 := fun c => by have := HT.out.2.1 c; rw [List.take_length] at this; omega
        have HXL : Hid (∀ c, (xs c).length ≤ 536870912) := hxl
        obtain ⟨ka, kc, ek⟩ : ∃ ka kc, u7 = .slice ka ks.length kc := by
          rcases HT.out.1.kept.2 with ⟨e, h0⟩ | ⟨g', c, cur, e, _⟩
          · exact ⟨none, 0, by rw [e, h0]⟩
          · exact ⟨_, _, e⟩
        obtain ⟨ha, hc, eh⟩ : ∃ ha hc, u8 = .slice ha hs.length hc := by
          rcases HT.out.1.whole.2 with ⟨e, h0⟩ | ⟨g', c, cur, e, _⟩
          · exact ⟨none, 0, by rw [e, h0]⟩
          · exact ⟨_, _, e⟩
        subst ek eh
        clear HT hxl
        go_wp2
        go_loopw [16] (fun kw wx => ∃ k : Nat, kw = .int .i64 k ∧ k ≤ 2 ∧ Tells w N (N + 1) (N + 4) (wsAt N) wx v d xs xs (.slice ka ks.length kc) (.slice ha hs.length hc) ks hs zs zs) (fun kw _ => 2 - (intOf kw).toNat)
        case atStart => exact ⟨0, rfl, by omega, HT'.out.1⟩
        case round =>
          obtain ⟨k, rfl, hk2, hT⟩ := hrel
          have HQ : Hid (Tells w N (N + 1) (N + 4) (wsAt N) wr v d xs xs (.slice ka ks.length kc) (.slice ha hs.length hc) ks hs zs zs) := hT
          clear hT
          by_cases hlt2 : k < 2
          · obtain ⟨bb, hbb⟩ : ∃ bb, ix bb = k := by
              by_cases h0 : k = 0
              · exact ⟨false, by rw [h0]; rfl⟩
              · exact ⟨true, by show 1 = k; omega⟩
            have hxb := HXL.out bb
            obtain ⟨da, dc, hds⟩ : ∃ da dc, d bb = .slice da (xs bb).length dc := by
              obtain ⟨da, dc, e, _⟩ := Sees.own (HQ.out.own bb)
              exact ⟨da, dc, e⟩
            have HD : Hid (∀ wx, Tells w N (N + 1) (N + 4) (wsAt N) wx v d xs xs (.slice ka ks.length kc) (.slice ha hs.length hc) ks hs zs zs → wx.cell? ⟨N, k, none⟩ = some (.pointer (some ⟨wsAt N bb, 0, none⟩)) ∧ wx.cell? ⟨N + 1, k, none⟩ = some (.slice da (xs bb).length dc) ∧ IsW wx (wsAt N bb) (v bb) (xs bb) ∧ Owns wx w.heap.size (.slice da (xs bb).length dc) (xs bb)) := fun wx hx => by
              have h1 := hx.aCell bb
              have h2 := hx.dCell bb
              have h3 := hx.own bb
              rw [hbb] at h1 h2
              rw [hds] at h2 h3
              exact ⟨h1, h2, hx.isW bb, h3⟩
            have HQd : Hid (Tells w N (N + 1) (N + 4) (wsAt N) wr.drew v d xs xs (.slice ka ks.length kc) (.slice ha hs.length hc) ks hs zs zs) := HQ.out.new ((Kept.refl _ _).drewN 1)
            have r1 := (HD.out wr.drew HQd.out).1
            have r2 := (HD.out wr.drew HQd.out).2.1
            clear hds hbb
            generalize xs bb = zz at *
            generalize wsAt N bb = gw at *
            generalize v bb = vb at *
            go_wp2_with fail
            go_cut [17] from 117 to 141 (fun s wx => s = .bool true ∧ Tells w N (N + 1) (N + 4) (wsAt N) wx v d xs xs (.slice ka ks.length kc) (.slice ha hs.length hc) ks hs zs zs)
            case first =>
              go_region_held (fun w' => w'.cell? ⟨N, k, none⟩ = some (.pointer (some ⟨gw, 0, none⟩)) ∧ w'.cell? ⟨N + 1, k, none⟩ = some (.slice da zz.length dc)) (first | exact ⟨r1, r2⟩ | exact ⟨t1, t2⟩ | exact ⟨y1, y2⟩)
                (first
                | (go_at_call 10; refine (wBytes_any gw vb zz _ (HD.out _ HQd.out).2.2.1 ?_).mono ?_; omega; rintro e w3 ⟨pa, rfl, ho3, hb3⟩; have HQ3 : Hid (Tells w N (N + 1) (N + 4) (wsAt N) w3 v d xs xs (.slice ka ks.length kc) (.slice ha hs.length hc) ks hs zs zs ∧ Sees w3 pa zz) := ⟨HQd.out.new (news hb3), Sees.own ho3⟩; obtain ⟨t1, t2, _, _⟩ := HD.out w3 HQ3.out.1; clear ho3 hb3)
                | (go_at_call 11; refine (eqBytes_any _ _ zz zz _ HQ3.out.2 (Sees.own (HD.out _ HQ3.out.1).2.2.2)).mono ?_; rintro e w4 ⟨rfl, n4, hw4⟩; have HQ4 : Hid (Tells w N (N + 1) (N + 4) (wsAt N) w4 v d xs xs (.slice ka ks.length kc) (.slice ha hs.length hc) ks hs zs zs) := (HQ3.out.1.new (by rw [hw4]; exact (Kept.refl _ _).drewN _)); obtain ⟨y1, y2, _, _⟩ := HD.out w4 HQ4.out; have ed : decide (zz = zz) = true := decide_eq_true rfl; rw [ed]; clear hw4 ed))
              all_goals (go_wp2_with fail)
              all_goals go_meet
              all_goals exact ⟨rfl, HQ4.out⟩
            case rest =>
              obtain ⟨rfl, hT5⟩ := hcut
              clear r1 r2 HQd HQ
              have HQ5 : Hid (Tells w N (N + 1) (N + 4) (wsAt N) wc v d xs xs (.slice ka ks.length kc) (.slice ha hs.length hc) ks hs zs zs) := hT5
              have HQ6 : Hid (Tells w N (N + 1) (N + 4) (wsAt N) wc.drew v d xs xs (.slice ka ks.length kc) (.slice ha hs.length hc) ks hs zs zs) := hT5.new ((Kept.refl _ _).drewN 1)
              obtain ⟨r1, r2, _, _⟩ := HD.out wc.drew HQ6.out
              clear hT5
              go_wp2_with fail
              go_cut [141] from 117 to 141 (fun s wx => s = .bool false ∧ Tells w N (N + 1) (N + 4) (wsAt N) wx v d xs xs (.slice ka ks.length kc) (.slice ha hs.length hc) ks hs zs zs)
              case first =>
                go_region_held (fun w' => w'.cell? ⟨N, k, none⟩ = some (.pointer (some ⟨gw, 0, none⟩)) ∧ w'.cell? ⟨N + 1, k, none⟩ = some (.slice da zz.length dc)) (first | exact ⟨r1, r2⟩ | exact ⟨t1, t2⟩)
                  (first
                  | (go_at_call 9; refine (wLen_any gw vb zz _ (HD.out _ HQ6.out).2.2.1).mono ?_; rintro e w3 ⟨rfl, hw3⟩; have HQ7 : Hid (Tells w N (N + 1) (N + 4) (wsAt N) w3 v d xs xs (.slice ka ks.length kc) (.slice ha hs.length hc) ks hs zs zs) := (by rw [hw3]; exact HQ6.out); obtain ⟨t1, t2, _, _⟩ := HD.out w3 HQ7.out; clear hw3))
                all_goals (go_wp2_with fail)
                all_goals go_meet
                all_goals exact ⟨rfl, HQ7.out⟩
              case rest =>
                obtain ⟨rfl, hT8⟩ := hcut
                have HQ8 : Hid (Tells w N (N + 1) (N + 4) (wsAt N) _ v d xs xs (.slice ka ks.length kc) (.slice ha hs.length hc) ks hs zs zs) := hT8
                clear hT8 r1 r2
                go_wp2
                go_roundw
                case rel => exact ⟨k + 1, by go_num, by omega, HQ8.out⟩
                case measure => simp [intOf]; omega
          · go_wp2
            go_loopw [18] (fun jv wx => ∃ j : Nat, jv = .int .i64 j ∧ j ≤ ks.length ∧ Tells w N (N + 1) (N + 4) (wsAt N) wx v d xs xs (.slice ka ks.length kc) (.slice ha hs.length hc) ks hs zs zs) (fun jv _ => ks.length - (intOf jv).toNat)
            case atStart => exact ⟨0, rfl, Nat.zero_le _, HQ.out⟩
            case round =>
              clear HQ
              obtain ⟨j, rfl, hjl, hT⟩ := hrel
              have HQ : Hid (Tells w N (N + 1) (N + 4) (wsAt N) wr v d xs xs (.slice ka ks.length kc) (.slice ha hs.length hc) ks hs zs zs) := hT
              clear hT
              by_cases hlt3 : j < ks.length
              · have hjz : j < zs.length := by rw [← HQ.out.klen]; exact hlt3
                have hjh : j < hs.length := by rw [HQ.out.hlen]; exact hjz
                obtain ⟨kb, ko, rfl⟩ : ∃ kb ko, ka = some ⟨kb, ko, none⟩ := by
                  obtain ⟨_, _, e, _, _, h3⟩ := sees_own HQ.out.kept
                  simp at e
                  obtain ⟨rfl, rfl⟩ := e
                  rcases h3 with h3 | ⟨b, off, e', _⟩
                  · subst h3; simp at hlt3
                  · exact ⟨b, off, e'⟩
                obtain ⟨hb', ho', rfl⟩ : ∃ hb' ho', ha = some ⟨hb', ho', none⟩ := by
                  obtain ⟨_, _, e, _, _, h3⟩ := sees_own HQ.out.whole
                  simp at e
                  obtain ⟨rfl, rfl⟩ := e
                  rcases h3 with h3 | ⟨b, off, e', _⟩
                  · subst h3; simp at hjh
                  · exact ⟨b, off, e'⟩
                have HD : Hid (∀ wx, Tells w N (N + 1) (N + 4) (wsAt N) wx v d xs xs (.slice (some ⟨kb, ko, none⟩) ks.length kc) (.slice (some ⟨hb', ho', none⟩) hs.length hc) ks hs zs zs → wx.cell? ⟨kb, ko + j, none⟩ = some (.slice ks[j].ao ks[j].n ks[j].cap) ∧ wx.cell? ⟨hb', ho' + j, none⟩ = some (.slice hs[j].ao hs[j].n hs[j].cap) ∧ Sees wx (.slice ks[j].ao ks[j].n ks[j].cap) zs[j] ∧ Sees wx (.slice hs[j].ao hs[j].n hs[j].cap) zs[j]) := fun wx hx => by
                  refine ⟨?_, ?_, Sees.own (hx.klook j hjz hlt3), Sees.own (hx.hlook j hjz hjh)⟩
                  · obtain ⟨_, _, e, _, _, h3⟩ := sees_own hx.kept
                    simp at e
                    rcases h3 with h3 | ⟨b, off, e', _, h4⟩
                    · subst h3; simp at hlt3
                    · rw [← e.1] at e'
                      simp at e'
                      obtain ⟨rfl, rfl⟩ := e'
                      exact h4 j hlt3
                  · obtain ⟨_, _, e, _, _, h3⟩ := sees_own hx.whole
                    simp at e
                    rcases h3 with h3 | ⟨b, off, e', _, h4⟩
                    · subst h3; simp at hjh
                    · rw [← e.1] at e'
                      simp at e'
                      obtain ⟨rfl, rfl⟩ := e'
                      exact h4 j hjh
                have HQd : Hid (Tells w N (N + 1) (N + 4) (wsAt N) wr.drew v d xs xs (.slice (some ⟨kb, ko, none⟩) ks.length kc) (.slice (some ⟨hb', ho', none⟩) hs.length hc) ks hs zs zs) := HQ.out.new ((Kept.refl _ _).drewN 1)
                obtain ⟨r1, r2, _, _⟩ := HD.out wr.drew HQd.out
                generalize ks[j] = p at *
                generalize hs[j] = q at *
                generalize zs[j] = zz at *
                obtain ⟨pa, pn, pc⟩ := p
                obtain ⟨qa, qn, qc⟩ := q
                simp only at r1 r2 HD
                go_wp2_with fail
                go_cut [19] from 142 to 158 (fun s wx => s = .bool true ∧ Tells w N (N + 1) (N + 4) (wsAt N) wx v d xs xs (.slice (some ⟨kb, ko, none⟩) ks.length kc) (.slice (some ⟨hb', ho', none⟩) hs.length hc) ks hs zs zs)
                case first =>
                  go_region_held (fun w' => w'.cell? ⟨kb, ko + j, none⟩ = some (.slice pa pn pc) ∧ w'.cell? ⟨hb', ho' + j, none⟩ = some (.slice qa qn qc)) (first | exact ⟨r1, r2⟩ | exact ⟨t1, t2⟩)
                    (first
                    | (go_at_call 11; refine (eqBytes_any _ _ zz zz _ (HD.out _ HQd.out).2.2.1 (HD.out _ HQd.out).2.2.2).mono ?_; rintro e w4 ⟨rfl, n4, hw4⟩; have HQ4 : Hid (Tells w N (N + 1) (N + 4) (wsAt N) w4 v d xs xs (.slice (some ⟨kb, ko, none⟩) ks.length kc) (.slice (some ⟨hb', ho', none⟩) hs.length hc) ks hs zs zs) := (HQd.out.new (by rw [hw4]; exact (Kept.refl _ _).drewN _)); obtain ⟨t1, t2, _, _⟩ := HD.out w4 HQ4.out; have ed : decide (zz = zz) = true := decide_eq_true rfl; rw [ed]; clear hw4 ed))
                  all_goals (go_wp2_with fail)
                  all_goals go_meet
                  all_goals exact ⟨rfl, HQ4.out⟩
                case rest =>
                  obtain ⟨rfl, hT8⟩ := hcut
                  have HQ8 : Hid (Tells w N (N + 1) (N + 4) (wsAt N) _ v d xs xs (.slice (some ⟨kb, ko, none⟩) ks.length kc) (.slice (some ⟨hb', ho', none⟩) hs.length hc) ks hs zs zs) := hT8
                  clear hT8 r1 r2
                  go_wp2
                  go_roundw
                  case rel => exact ⟨j + 1, by go_num, by omega, HQ8.out⟩
                  case measure => simp [intOf]; omega
              · have HZ : Hid (∀ z ∈ zs, z.length ≤ 8 * opSum os) := HT'.out.2
                have hsz := HQ.out.below.size
                go_wp2_with fail
                refine (addPieces_one (N + 4) w.heap.size ka kc ks _ HQ.out.bag (sees_own HQ.out.kept) hsz).mono ?_
                rintro e w3 ⟨rfl, bv, pv, hbag, hk3⟩
                have HL : Hid (BagIs w3 (N + 4) bv pv (ks.take 600) [⟨ka, ks.length, kc⟩] w.heap.size ∧ (∀ q ∈ ks.take 600, Lies w3 5 q) ∧ ApartPcs (ks.take 600) ∧ (∀ q ∈ ks.take 600, q.n ≤ 70000000000000) ∧ Lies w3 27 ⟨ka, ks.length, kc⟩ ∧ Tab w3 ∧ (∀ k x, feet (ks.take 600) k x → w.heap.size ≤ k) ∧ (∀ k x, (⟨ka, ks.length, kc⟩ : Pc).foot k x → w.heap.size ≤ k) ∧ Below w.heap.size w w3) := tells_bag HQ.out hbag hk3 HS.out.2.2 hg0 (fun z hz => by have := HZ.out z hz; omega)
                clear hbag hk3
                go_wp2_with fail
                refine (bagApart_one (N + 4) w.heap.size bv pv (ks.take 600) ⟨ka, ks.length, kc⟩ _ HL.out.1 HL.out.2.1 HL.out.2.2.1 (by rw [List.length_take]; omega) HL.out.2.2.2.1 HL.out.2.2.2.2.1 (by show ks.length ≤ 1000000000; omega) HL.out.2.2.2.2.2.1 hg0 HL.out.2.2.2.2.2.2.2.2.size HL.out.2.2.2.2.2.2.1 HL.out.2.2.2.2.2.2.2.1).mono ?_
                rintro e w4 ⟨rfl, hb4⟩
                have HE : Hid (Below w.heap.size w w4) := HL.out.2.2.2.2.2.2.2.2.trans hb4
                clear hb4
                go_wp2
                go_ret
                exact ⟨rfl, HE.out⟩
end packTells
end Go.Proofs.YtmjcpcpcngpdjaaGreatDoor
