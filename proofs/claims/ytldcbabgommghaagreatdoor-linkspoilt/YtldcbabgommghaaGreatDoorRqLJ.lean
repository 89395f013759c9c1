/- Check of package packet, for every packet. -/
import Derived.Test.YtldcbabgommghaaGreatDoorPkIJ
import Derived.Test.YtldcbabgommghaaGreatDoorWkReadJ
import Derived.Test.YtldcbabgommghaaGreatDoorCopyTJ
namespace Go.Proofs.YtldcbabgommghaaGreatDoor
open Go.RowKit
set_option maxRecDepth 8000

/-- May it be, as the program asks. -/
def chkP (p : PkD) (tz : Bool) : Bool := (nmP p.kind != 0) && !(bits .andNot .u16 (fillP p tz) (nmP p.kind) != 0) && (flN (nmP p.kind) 12).all (fun j => rgB j p)

theorem pkSz0 : (Tryz.prog.info? 39).map (·.size) = some 32 := by kernel_rfl
theorem pkSz (p : PkD) (tc : List Value) (bv : Value) (hl : tc.length = 16) : (Tryz.prog.info? 39).map (·.size) = some (pkL p tc bv).toArray.size := by
  have : (pkL p tc bv).toArray.size = 32 := by simp [pkL, hl]
  rw [this]
  exact pkSz0

theorem rows_sees {w : World} {B : Nat} {v : Value} {l : List Nat} (h : w.ownsRow B 101 4 v l.length (rowsF l)) : SeesR w v 4 (l.map rowC) := by
  have e : rowsF l = (l.map rowC).flatten := by unfold rowsF; rw [List.flatMap_def]
  rw [e] at h
  exact seesR_own (by simpa using h) (fun c hc => by obtain ⟨j, _, rfl⟩ := List.mem_map.1 hc; rfl)

/-- A row, place by place. -/
theorem rows_at {w : World} {v : Value} {l : List Nat} (h : SeesR w v 4 (l.map rowC)) (k : Nat) (hk : k < l.length) : ∃ b off c, v = .slice (some ⟨b, off, none⟩) l.length c ∧ l.length ≤ c ∧ w.cell? ⟨b, off + k * 4, none⟩ = some (.int .u16 (pw l[k])) ∧ w.cell? ⟨b, off + k * 4 + 1, none⟩ = some (fv (fRt l[k])) ∧ w.cell? ⟨b, off + k * 4 + 2, none⟩ = some (fv (fPt l[k])) ∧ w.cell? ⟨b, off + k * 4 + 3, none⟩ = some (fv (fGt l[k])) := by
  obtain ⟨ao, c, rfl, h1, _, _, h3⟩ := h
  rw [List.length_map] at h1 ⊢
  rcases h3 with h3 | ⟨b, off, rfl, h3⟩
  · rw [List.map_eq_nil_iff] at h3; subst h3; simp at hk
  · have g := h3 k (by simpa using hk)
    refine ⟨b, off, c, rfl, h1, ?_, ?_, ?_, ?_⟩
    · simpa [rowC] using g 0 (by omega)
    · simpa [rowC] using g 1 (by omega)
    · simpa [rowC] using g 2 (by omega)
    · simpa [rowC] using g 3 (by omega)

theorem enter_fRt (j : Nat) (args : Array Value) (w : World) : (callFunc (fRt j) args).run Tryz.prog w = .ok (.enter (fRt j) args) w := by
  match j with
  | 0 => rfl
  | 1 => rfl
  | 2 => rfl
  | 3 => rfl
  | 4 => rfl
  | 5 => rfl
  | 6 => rfl
  | 7 => rfl
  | 8 => rfl
  | 9 => rfl
  | 10 => rfl
  | _ + 11 => rfl
theorem enter_fPt (j : Nat) (args : Array Value) (w : World) : (callFunc (fPt j) args).run Tryz.prog w = .ok (.enter (fPt j) args) w := by
  match j with
  | 0 => rfl
  | 1 => rfl
  | 2 => rfl
  | 3 => rfl
  | 4 => rfl
  | 5 => rfl
  | 6 => rfl
  | 7 => rfl
  | 8 => rfl
  | 9 => rfl
  | 10 => rfl
  | _ + 11 => rfl
theorem enter_fGt (j : Nat) (args : Array Value) (w : World) : (callFunc (fGt j) args).run Tryz.prog w = .ok (.enter (fGt j) args) w := by
  match j with
  | 0 => rfl
  | 1 => rfl
  | 2 => rfl
  | 3 => rfl
  | 4 => rfl
  | 5 => rfl
  | 6 => rfl
  | 7 => rfl
  | 8 => rfl
  | 9 => rfl
  | 10 => rfl
  | _ + 11 => rfl

/-- A load of a whole row, its guard saying yes. -/
theorem load_rowG {P : Program} {ops : Array Oper} {rest : List Oper} {o : Oper} {a : Act} {w : World} {Q : Exit → Act → World → Prop} (hw : Region.wanted o (yielded ops a.tmps) = true) (ty : TypeId) (x : Operand) (ho : o.op = .load ty x)
    (g : Nat) (hx : a.eval x = .pointer (some ⟨g, 0, none⟩)) (t : TypeId) (cs : Array Value) (fr : Nat × Nat) (d : TypeDesc) (hg : w.heap[g]? = some (.cells cs t fr))
    (hu : P.underlying ty = some d) (hd : (match d with | .struct _ | .array _ _ => true | _ => false) = true) (hi : (P.info? ty).map (·.size) = some cs.size)
    (h : wpList P ops Q rest (a.put o.dst (.agg cs)) w) : wpList P ops Q (o :: rest) a w :=
  BigFrame.wpList_want hw fun _ hK => wp_load_row ty x ho g hx t cs fr d hg hu hd hi (hK _ _ h)

/-- What a walk over a packet's rows has in hand. -/
structure PkH (w : World) (p : PkD) (tc : List Value) (bv : Value) (W : World) : Prop where
  bel : Below w.heap.size w W
  at_ : PkAt W w.heap.size p tc bv
  pk : SeesPk W tc bv p
  nam : Nam W
  pnam : PNam W

theorem PkH.later {w W W' : World} {p : PkD} {tc : List Value} {bv : Value} (h : PkH w p tc bv W) (hb : Below W.heap.size W W') : PkH w p tc bv W' :=
  ⟨h.bel.trans (hb.mono h.bel.size), h.at_.later hb h.at_.lt, h.pk.below hb (Nat.le_refl _), h.nam.below hb h.nam.lt, h.pnam.below hb h.pnam.lt⟩

theorem PkH.box {w : World} {p : PkD} {tc : List Value} {bv : Value} (hs : SeesPk w tc bv p) (hn : Nam w) (hp : PNam w) : PkH w p tc bv (w.alloc (.cells (pkL p tc bv).toArray 39)) :=
  ⟨one_alloc _ _, heap_alloc_new _ _, hs.below (one_alloc _ _) (Nat.le_refl _), hn.below (one_alloc _ _) hn.lt, hp.below (one_alloc _ _) hp.lt⟩

set_option maxHeartbeats 4000000 in
theorem checkP_any (p : PkD) (tc : List Value) (bv : Value) (tz : Bool) (hz : tz = true ↔ p.tx = txN) (w : World) (hg : p.good) (hs : SeesPk w tc bv p) (hn : Nam w) (hp : PNam w) :
    Calls Tryz.prog 26 #[.agg (pkL p tc bv).toArray] w fun r w' => r = .returned (.int .i64 (if chkP p tz then 0 else 150)) ∧ Below w.heap.size w w' := by
  obtain ⟨E, hE⟩ : ∃ E : Int, E = (if chkP p tz then 0 else 150) := ⟨_, rfl⟩
  rw [← hE]
  have HE : Hid _ := hE
  clear hE
  obtain ⟨W, hW⟩ : ∃ W, W = w.alloc (.cells (pkL p tc bv).toArray 39) := ⟨_, rfl⟩
  have HA : Hid _ := hW
  have HW : Hid (PkH w p tc bv W) := by rw [hW]; exact PkH.box hs hn hp
  have HX : Hid (p.good ∧ (tz = true ↔ p.tx = txN) ∧ tc.length = 16) := ⟨hg, hz, hs.tx.len⟩
  have q32 := pkSz p tc bv hs.tx.len
  clear hW hs hn hp hg hz
  have c0 : W.cell? ⟨w.heap.size, 0, none⟩ = some (.int .i8 p.kind) := pk_at HW.out.at_ rfl
  go_enter Tryz.func26, Tryz.ntmps26
  go_upto_region 1 with fail
  rw [← HA.out]
  clear HA
  go_wp2_with fail
  refine (namedBy_any _ _ HW.out.pnam).mono ?_
  rintro _ w1 ⟨rfl, b1⟩
  have H1 : Hid (PkH w p tc bv w1) := HW.out.later b1
  clear b1 HW c0
  obtain ⟨N, hN⟩ : ∃ N, N = nmP p.kind := ⟨_, rfl⟩
  rw [← hN]
  have HN : Hid _ := hN
  clear hN
  cases hb : (N == 0) with
  | true =>
    have HF : Hid (E = 150) := by
      show E = 150
      rw [HE.out, if_neg (by unfold chkP; rw [← HN.out]; simp [show N = 0 by simpa using hb])]
    obtain rfl : N = 0 := by simpa using hb
    clear hb
    go_wp2_with fail
    go_ret
    exact ⟨by rw [HF.out]; rfl, H1.out.bel⟩
  | false =>
  have hrow := H1.out.at_
  unfold PkAt at hrow
  go_wp2_with (refine load_rowG (by rfl) 39 _ rfl w.heap.size rfl 39 _ (0, 0) _ hrow Tryz.underlying39 rfl q32 ?_)
  refine (filledP_any p tc bv tz HX.out.2.1 _ H1.out.pk).mono ?_
  rintro _ w2 ⟨rfl, b2⟩
  have H2 : Hid (PkH w p tc bv w2) := H1.out.later b2
  clear b2 H1 hrow
  obtain ⟨M, hM⟩ : ∃ M, M = fillP p tz := ⟨_, rfl⟩
  rw [← hM]
  have HM : Hid _ := hM
  clear hM
  cases hc : (bits .andNot .u16 M N != 0) with
  | true =>
    have HF : Hid (E = 150) := by
      show E = 150
      rw [HE.out, if_neg (by unfold chkP; rw [← HN.out, ← HM.out, hc]; simp)]
    go_wp2_with fail
    go_ret
    exact ⟨by rw [HF.out]; rfl, H2.out.bel⟩
  | false =>
  have HF : Hid (E = if (flN N 12).all (fun j => rgB j p) = true then 0 else 150) := by
    show E = _
    rw [HE.out]
    unfold chkP
    rw [← HN.out, ← HM.out, hc, show (N != 0) = true by rw [bne, hb]; rfl]
    simp
  clear HE HN HM
  go_wp2_with fail
  refine (rowsOf_any N _).mono ?_
  rintro _ w3 ⟨v, rfl, ho, b3⟩
  have H3 : Hid (PkH w p tc bv w3 ∧ SeesR w3 v 4 ((flN N 12).map rowC)) := ⟨H2.out.later b3, rows_sees ho⟩
  have hlen := flN_len N 12
  obtain ⟨L, hL⟩ : ∃ L, L = flN N 12 := ⟨_, rfl⟩
  rw [← hL] at H3 HF hlen
  clear ho b3 H2 hc hb hL
  obtain ⟨va, vc, rfl⟩ : ∃ va vc, v = .slice va L.length vc := by obtain ⟨ao, c, e, _⟩ := H3.out.2; rw [List.length_map] at e; exact ⟨ao, c, e⟩
  go_wp2_with fail
  go_loopw [21] (fun i wr => ∃ k : Nat, k ≤ L.length ∧ i = .int .i64 k ∧ Hid (PkH w p tc bv wr ∧ SeesR wr (.slice va L.length vc) 4 (L.map rowC)) ∧ Hid (∀ j ∈ L.take k, rgB j p = true)) (fun i _ => L.length - (intOf i).toNat)
  case atStart => exact ⟨0, Nat.zero_le _, rfl, H3, fun j hj => by simp at hj⟩
  case round =>
    clear H3
    obtain ⟨k, hk, rfl, H, HR⟩ := hrel
    by_cases hlt : k < L.length
    · obtain ⟨b, off, c, e, hcl, c0, c1, c2, c3⟩ := rows_at H.out.2 k hlt
      simp at e
      obtain ⟨rfl, rfl⟩ := e
      obtain ⟨j, hj⟩ : ∃ j, j = L[k] := ⟨_, rfl⟩
      rw [← hj] at c0 c1 c2 c3
      have HJ : Hid (j = L[k]) := hj
      clear hj
      have hsf := store_fn15
      obtain ⟨V, HV⟩ : ∃ V, Hid (V = wr.alloc (.cells #[.int .u16 (pw j), .func (.func (fRt j)) #[] #[], .func (.func (fPt j)) #[] #[], .func (.func (fGt j)) #[] #[]] 101)) := ⟨_, rfl⟩
      have HVV : Hid (PkH w p tc bv V ∧ SeesR V (.slice (some ⟨b, off, none⟩) L.length vc) 4 (L.map rowC) ∧ V.heap[wr.heap.size]? = some (.cells (rowC j).toArray 101 (0, 0))) := by
        rw [HV.out]
        exact ⟨H.out.1.later (one_alloc _ _), H.out.2.below (one_alloc _ _) (Nat.le_refl _), heap_alloc_new _ _⟩
      go_upto_region 7 with fail
      rw [← HV.out]
      clear HV c0 c1 c2 c3 H hsf
      have d1 : V.cell? ⟨wr.heap.size, 1, none⟩ = some (fv (fRt j)) := pk_at HVV.out.2.2 rfl
      have hrow := HVV.out.1.at_
      unfold PkAt at hrow
      have hen := enter_fRt j
      go_wp2_with (refine wpList_load_row rfl 39 _ rfl w.heap.size rfl 39 _ (0, 0) _ hrow Tryz.underlying39 rfl q32 ?_)
      refine (right_any j p tc bv _ HX.out.1 HVV.out.1.pk HVV.out.1.nam).mono ?_
      rintro _ w5 ⟨rfl, b5⟩
      have H5 : Hid (PkH w p tc bv w5 ∧ SeesR w5 (.slice (some ⟨b, off, none⟩) L.length vc) 4 (L.map rowC)) := ⟨HVV.out.1.later b5, HVV.out.2.1.below b5 (Nat.le_refl _)⟩
      clear b5 HVV hrow d1 hen
      cases hr : rgB j p with
      | false =>
        have HE2 : Hid (E = 150) := by
          show E = 150
          rw [HF.out, if_neg]
          intro h
          rw [List.all_eq_true] at h
          have := h j (by rw [HJ.out]; exact List.getElem_mem _)
          rw [hr] at this
          cases this
        go_wp2_with fail
        go_ret
        exact ⟨by rw [HE2.out]; rfl, H5.out.1.bel⟩
      | true =>
        have HR2 : Hid (∀ j ∈ L.take (k + 1), rgB j p = true) := fun i hi => by
          rw [List.take_succ_eq_append_getElem hlt] at hi
          rcases List.mem_append.1 hi with hi | hi
          · exact HR.out i hi
          · simp at hi; rw [hi, ← HJ.out]; exact hr
        go_wp2_with fail
        go_roundw
        case rel => exact ⟨k + 1, by omega, by go_num, H5, HR2⟩
        case measure => simp [intOf]; omega
    · obtain rfl : k = L.length := by omega
      have HE2 : Hid (E = 0) := by
        show E = 0
        rw [HF.out, if_pos]
        rw [List.all_eq_true]
        have := HR.out
        rw [List.take_length] at this
        exact this
      go_wp2_with fail
      go_ret
      exact ⟨by rw [HE2.out]; rfl, H.out.1.bel⟩
end Go.Proofs.YtldcbabgommghaaGreatDoor

/- What putEntry, and PutList of entries with it, put behind a Writer's bytes. -/
namespace Go.Proofs.YtldcbabgommghaaGreatDoor
open Go.RowKit
set_option maxRecDepth 8000

def enB (x : EnD) : List Int := [x.perms % 256] ++ idB x.id

set_option maxHeartbeats 400000 in
theorem putEntry_any (last wo : Int) (g : Nat) (v : Value) (xs : List Int) (x : EnD) (w : World) (h : IsW w g v xs) (h1 : x.id.scheme.size ≤ 2147483647) (h2 : x.id.name.size ≤ 2147483647) (hb : xs.length ≤ 60000000000000) :
    Calls Tryz.prog 149 #[lay last wo, .pointer (some ⟨g, 0, none⟩), .agg #[.int .i8 x.perms, .string x.id.scheme, .string x.id.name]] w fun e w' => e = .returned (.tuple #[]) ∧ Puts w g v (xs ++ enB x) w' := by
  obtain ⟨perms, ⟨scheme, name⟩⟩ := x
  simp only at h1 h2 ⊢
  obtain ⟨V, eV⟩ : ∃ V, V = (w.alloc (.cells #[.int .i8 last, .int .u16 wo] 153)).alloc (.cells #[.int .i8 perms, .string scheme, .string name] 131) := ⟨_, rfl⟩
  have HL : Hid (g < w.heap.size ∧ ∀ k, v.ownBlock = some k → k < w.heap.size) := h.lt
  have HV : Hid (IsW V g v xs ∧ ∀ zs W, Puts V g v zs W → Puts w g v zs W ∧ W.cell? ⟨w.heap.size, 0, none⟩ = some (.int .i8 last) ∧ W.cell? ⟨w.heap.size, 1, none⟩ = some (.int .u16 wo) ∧ W.cell? ⟨w.heap.size + 1, 1, none⟩ = some (.string scheme) ∧ W.cell? ⟨w.heap.size + 1, 2, none⟩ = some (.string name)) := by
    refine ⟨by subst eV; exact (h.alloc _).alloc _, fun zs W hp => ⟨by subst eV; exact hp.of_alloc.of_alloc, ?_, ?_, ?_, ?_⟩⟩
    iterate 2 (refine hp.cell (p := ⟨w.heap.size, _, none⟩) ?_ (by have := HL.out.1; show w.heap.size ≠ g; omega) (fun e => by have h1 := HL.out.2 _ e; have : w.heap.size < w.heap.size := h1; omega); subst eV; rw [World.cell?_alloc_lt _ _ _ (by simp), cell_of_row _ _ _ _ _ _ (heap_alloc_new _ _)]; rfl)
    all_goals (refine hp.cell (p := ⟨w.heap.size + 1, _, none⟩) ?_ (by have := HL.out.1; show w.heap.size + 1 ≠ g; omega) (fun e => by have h1 := HL.out.2 _ e; have : w.heap.size + 1 < w.heap.size := h1; omega); subst eV; rw [cell_of_row _ _ _ _ _ _ (by have := heap_alloc_new (w.alloc (.cells #[.int .i8 last, .int .u16 wo] 153)) (.cells #[.int .i8 perms, .string scheme, .string name] 131 (0, 0)); simpa using this)]; rfl)
  have HE : Hid _ := eV
  clear h eV
  go_enter Tryz.func149, Tryz.ntmps149
  go_wp2_with fail
  rw [← HE.out]
  refine (wInt8_any g v xs perms _ HV.out.1 (by omega)).mono ?_
  rintro e w1 ⟨rfl, hp⟩
  have HP : Hid (Puts V g v (xs ++ [perms % 256]) w1) := hp
  clear hp HE
  obtain ⟨_, l0, l1, c1, c2⟩ := HV.out.2 _ _ HP.out
  go_wp2_with fail
  obtain ⟨v1, hW, hN, hK⟩ := HP.out
  refine (putId_any (lay last wo) last wo rfl g v1 _ ⟨scheme, name⟩ _ hW h1 h2 (by simp; omega)).mono ?_
  rintro e w2 ⟨rfl, hp2⟩
  have HQ : Hid (Puts V g v (xs ++ [perms % 256] ++ idB ⟨scheme, name⟩) w2) := Puts.next hN hK hp2
  clear hp2 hW hN hK HP l0 l1 c1 c2
  go_wp2
  go_end0
  refine ⟨rfl, ?_⟩
  have := (HV.out.2 _ _ HQ.out).1
  rw [List.append_assoc] at this
  exact this

theorem putDefE (w : World) : CallsD Tryz.prog 169 #[] .returning w fun e u' w' => e = .returned (.tuple #[]) ∧ u' = .returning ∧ w' = w := by
  refine callsD_of_wpS Tryz.func169 rfl fun c₀ cs hu => ?_
  apply wpS_region
  simp [wpOpsS, go_sem, recoverD, hu, Tryz.ntmps169, bodyPostS, results, Tryz.results169]
  cases c₀
  simp_all

def acB (l : List EnD) : List Int := l.flatMap enB
theorem acB_next (l : List EnD) (k : Nat) (h : k < l.length) : acB (l.take (k + 1)) = acB (l.take k) ++ enB l[k] := by
  rw [List.take_succ_eq_append_getElem h]; simp only [acB, List.flatMap_append, List.flatMap_cons, List.flatMap_nil, List.append_nil]

theorem acB_len (l : List EnD) (h : ∀ x ∈ l, x.id.scheme.size ≤ 2147483647 ∧ x.id.name.size ≤ 2147483647) : (acB l).length ≤ 4294967320 * l.length := by
  induction l with
  | nil => simp [acB]
  | cons x l ih =>
    have e : acB (x :: l) = enB x ++ acB l := by simp [acB]
    have h1 := h x (by simp)
    have h2 := ih (fun y hy => h y (by simp [hy]))
    rw [e, List.length_append, enB, List.length_append, idB, List.length_append, txtB_len, txtB_len]
    simp only [List.length_cons, List.length_nil]
    omega

set_option maxHeartbeats 1000000 in
theorem putListE_any (last wo : Int) (g : Nat) (v u : Value) (xs : List Int) (l : List EnD) (w : World) (h : IsW w g v xs) (hs : SeesR w u 3 (l.map EnD.cells)) (hr : l.length ≤ 4096) (hx : ∀ x ∈ l, x.id.scheme.size ≤ 2147483647 ∧ x.id.name.size ≤ 2147483647) (hb : xs.length ≤ 30000000000000) (hap : ∀ k, liveB u = some k → k ≠ g ∧ v.ownBlock ≠ some k ∧ k < w.heap.size) :
    Calls Tryz.prog 148 #[.pointer (some ⟨g, 0, none⟩), u, .func (.func 149) #[lay last wo] #[]] w fun e w' => e = .returned (.tuple #[]) ∧ Puts w g v (xs ++ (be4 l.length ++ acB l)) w' := by
  have H : Hid (IsW w g v xs ∧ SeesR w u 3 (l.map EnD.cells)) := ⟨h, hs⟩
  have HL : Hid (g < w.heap.size ∧ ∀ k, v.ownBlock = some k → k < w.heap.size) := h.lt
  obtain ⟨ao, cap, rfl, hlc, hcm, h0, h3⟩ := hs
  rw [List.length_map] at hlc ⊢
  unfold maxLen at hcm
  clear h h3 h0
  have hfn : ∀ w, (binOp .eql 163 (.func (.func 149) #[lay last wo] #[]) .nilFunc).run Tryz.prog w = .ok (.bool false) w := fun _ => by kernel_rfl
  go_enter_defers Tryz.func148, Tryz.ntmps148
  go_wp2_with fail
  refine (wInt32_any g v xs l.length _ H.out.1 (by omega)).mono ?_
  rintro e w1 ⟨rfl, hp⟩
  rw [show up32 (l.length : Int) = l.length by unfold up32; omega] at hp
  have HP : Hid (Puts w g v (xs ++ be4 l.length) w1) := hp
  clear hp
  go_wp2
  go_loopw [7, 19] (fun _ i wr => ∃ k : Nat, k ≤ l.length ∧ i = .int .i64 k ∧ Puts w g v (xs ++ be4 l.length ++ acB (l.take k)) wr) (fun _ i _ => l.length - (intOf i).toNat)
  case atStart => exact ⟨0, Nat.zero_le _, rfl, by simpa [acB] using HP.out⟩
  case round =>
    clear HP
    obtain ⟨k, hk, rfl, hp⟩ := hrel
    have HP : Hid (Puts w g v (xs ++ be4 l.length ++ acB (l.take k)) wr) := hp
    clear hp
    by_cases hlt : k < l.length
    · have hap' : ∀ k, liveB (Value.slice ao (l.map EnD.cells).length cap) = some k → k ≠ g ∧ v.ownBlock ≠ some k ∧ k < w.heap.size := hap
      obtain ⟨ao', cap', e, _, _, _, h3⟩ := H.out.2
      simp at e
      obtain ⟨rfl, rfl⟩ := e
      rcases h3 with h3 | ⟨b, off, rfl, h3⟩
      · have : l.length = 0 := by simpa using congrArg List.length h3
        omega
      · have hbk := hap' b (live_at (by rw [List.length_map]; omega))
        have c0 := HP.out.cell (h3 k (by simpa using hlt) 0 (by omega)) hbk.1 hbk.2.1
        have c1 := HP.out.cell (h3 k (by simpa using hlt) 1 (by omega)) hbk.1 hbk.2.1
        have c2 := HP.out.cell (h3 k (by simpa using hlt) 2 (by omega)) hbk.1 hbk.2.1
        simp [EnD.cells] at c0 c1 c2
        have HT : Hid (acB (l.take (k + 1)) = acB (l.take k) ++ enB l[k]) := acB_next l k hlt
        have HX : Hid _ := hx l[k] (List.getElem_mem hlt)
        have HN : Hid ((acB (l.take k)).length ≤ 4294967320 * (l.take k).length) := acB_len (l.take k) (fun x hx' => hx x (List.mem_of_mem_take hx'))
        clear h3 hap hap' hx
        generalize l[k] = x at *
        go_wp2_with fail
        obtain ⟨vk, hW, hNw, hK⟩ := (HP.out.later (one_alloc wr _))
        refine (putEntry_any last wo g vk _ x _ hW HX.out.1 HX.out.2 (by have := HN.out; simp [be4] at this ⊢; omega)).mono ?_
        rintro e w2 ⟨rfl, hp2⟩
        have hp3 := Puts.next hNw hK hp2
        rw [List.append_assoc, ← HT.out] at hp3
        have HP2 : Hid (Puts w g v (xs ++ be4 l.length ++ acB (l.take (k + 1))) w2) := hp3
        clear hp2 hp3 hW hNw hK
        go_wp2
        go_roundw
        case rel => exact ⟨k + 1, by omega, by go_num, HP2.out⟩
        case measure => simp [intOf]; omega
    · obtain rfl : k = l.length := by omega
      have hp := HP.out
      rw [List.take_length] at hp
      have HQ : Hid (Puts w g v (xs ++ (be4 l.length ++ acB l)) wr) := by rw [← List.append_assoc]; exact hp
      clear hp HP
      go_wp2
      refine leaves_cons (f := 169) (args := #[]) (by simp) (by simp [go_sem]) ?_
      refine (putDefE _).mono ?_
      rintro e u' w'' ⟨rfl, rfl, rfl⟩
      exact ⟨_, results_none rfl _ _ _, rfl, HQ.out⟩

end Go.Proofs.YtldcbabgommghaaGreatDoor

/- A request whose lists that are not empty lie in blocks of a given set; no Go function is walked here. -/
namespace Go.Proofs.YtldcbabgommghaaGreatDoor
open Go.RowKit
set_option maxRecDepth 8000

theorem SeesR.keptL {w w' : World} {S : Nat → Prop} {v : Value} {z : Nat} {cs : List (List Value)} (h : SeesR w v z cs) (hk : Kept w w' S) (hn : ∀ k, liveB v = some k → ¬ S k) : SeesR w' v z cs := by
  obtain ⟨ao, cap, rfl, h1, h2, h0, h3⟩ := h
  refine ⟨ao, cap, rfl, h1, h2, h0, ?_⟩
  rcases h3 with h3 | ⟨b, off, rfl, h3⟩
  · exact .inl h3
  · cases cs with
    | nil => exact .inl rfl
    | cons c cs => exact .inr ⟨b, off, rfl, fun i hi j hj => hk.cell (h3 i hi j hj) (hn b rfl)⟩

theorem sees_live {w : World} {v : Value} {xs : List Int} (h : Sees w v xs) (k : Nat) (hk : liveB v = some k) : k < w.heap.size := by
  obtain ⟨ao, cap, rfl, h1, h2, h0, h3⟩ := h
  cases xs with
  | nil => cases hk
  | cons x xs =>
    rcases h3 with h3 | ⟨b, off, rfl, h3⟩
    · cases h3
    · have e : k = b := by
        have := live_own hk
        simp [Value.ownBlock] at this
        exact this.symm
      subst e
      exact World.block_lt_of_cell? w _ (h3 0 (by simp))

theorem seesR_live {w : World} {v : Value} {z : Nat} {cs : List (List Value)} (h : SeesR w v z cs) (hz : 0 < z) (k : Nat) (hk : liveB v = some k) : k < w.heap.size := by
  obtain ⟨ao, cap, rfl, h1, h2, h0, h3⟩ := h
  cases cs with
  | nil => cases hk
  | cons x xs =>
    rcases h3 with h3 | ⟨b, off, rfl, h3⟩
    · cases h3
    · have e : k = b := by
        have := live_own hk
        simp [Value.ownBlock] at this
        exact this.symm
      subst e
      exact World.block_lt_of_cell? w _ (h3 0 (by simp) 0 hz)

inductive RqL (w : World) (F : Nat → Prop) : List Value → Rq → Prop where
  | mk (f : RqF) (n : Nat) (ops : Fin n → Rq) (dv av wv ov : Value) (oc : Fin n → List Value)
      (hd : Sees w dv f.data) (ha : SeesR w av 3 (f.acl.map EnD.cells)) (hw : SeesR w wv 2 (f.who.map IdD.cells)) (ho : SeesR w ov 11 (List.ofFn oc))
      (fd : ∀ k, liveB dv = some k → F k) (fa : ∀ k, liveB av = some k → F k) (fw : ∀ k, liveB wv = some k → F k) (fo : ∀ k, liveB ov = some k → F k)
      (hs : ∀ i : Fin n, RqL w F (oc i) (ops i)) : RqL w F (rqCells f dv av wv ov) (.mk f n ops)

theorem RqL.sees {w : World} {F : Nat → Prop} {cs : List Value} {r : Rq} (h : RqL w F cs r) : SeesRq w cs r := by
  induction h with
  | mk f n ops dv av wv ov oc hd ha hw ho _ _ _ _ _ ih => exact .mk f n ops dv av wv ov oc hd ha hw ho ih

theorem RqL.kept {w w' : World} {S F F' : Nat → Prop} (hk : Kept w w' S) (hF : ∀ k, F k → ¬ S k ∧ F' k) {cs : List Value} {r : Rq} (h : RqL w F cs r) : RqL w' F' cs r := by
  induction h with
  | mk f n ops dv av wv ov oc hd ha hw ho fd fa fw fo _ ih =>
    exact .mk f n ops dv av wv ov oc (hd.keptL hk (fun k h => (hF k (fd k h)).1)) (ha.keptL hk (fun k h => (hF k (fa k h)).1)) (hw.keptL hk (fun k h => (hF k (fw k h)).1)) (ho.keptL hk (fun k h => (hF k (fo k h)).1))
      (fun k h => (hF k (fd k h)).2) (fun k h => (hF k (fa k h)).2) (fun k h => (hF k (fw k h)).2) (fun k h => (hF k (fo k h)).2) ih

theorem SeesRq.live {w : World} {cs : List Value} {r : Rq} (h : SeesRq w cs r) : RqL w (· < w.heap.size) cs r := by
  induction h with
  | mk f n ops dv av wv ov oc hd ha hw ho _ ih =>
    exact .mk f n ops dv av wv ov oc hd ha hw ho (sees_live hd) (seesR_live ha (by omega)) (seesR_live hw (by omega)) (seesR_live ho (by omega)) ih
end Go.Proofs.YtldcbabgommghaaGreatDoor
