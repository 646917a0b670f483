/- The names to which a message refers. Conditions: its fields lie in memory; the targets of each are known. -/
import Derived.Test.YtbpkppmbbpoohaaGreatVf
import Derived.Test.YtbpkppmbbpoohaaGreatGd
namespace Go.Proofs.YtbpkppmbbpoohaaGreat
open Go.RowKit Go.Shelf

def addN (N : List (List UInt8)) (s : List UInt8) : List (List UInt8) := if N.contains s then N else N ++ [s]
def addAll (N L : List (List UInt8)) : List (List UInt8) := L.foldl addN N
def refsN (D : List FieldD) : List (List UInt8) := addAll [] (D.flatMap targB)
theorem addN_len (N : List (List UInt8)) (s : List UInt8) : (addN N s).length ≤ N.length + 1 := by
  unfold addN; split <;> simp
theorem addAll_len (L : List (List UInt8)) : ∀ N, (addAll N L).length ≤ N.length + L.length := by
  induction L with
  | nil => intro N; simp [addAll]
  | cons s L ih =>
    intro N
    have h1 := ih (addN N s)
    have h2 := addN_len N s
    show (addAll (addN N s) L).length ≤ _
    simp only [List.length_cons]
    omega
theorem addAll_append (N L M : List (List UInt8)) : addAll N (L ++ M) = addAll (addAll N L) M := by simp [addAll, List.foldl_append]
theorem addAll_step {N T : List (List UInt8)} {j : Nat} {s : List UInt8} (h : T[j]? = some s) : addAll N (T.take (j + 1)) = addN (addAll N (T.take j)) s := by
  rw [(drop_of h).2, addAll_append]; rfl
def seenE (N : List (List UInt8)) : Ents := N.map fun s => (s, .bool true)
theorem getE_seen (N : List (List UInt8)) (s : List UInt8) : getE (seenE N) s = if N.contains s then some (.bool true) else none := by
  induction N with
  | nil => rfl
  | cons t N ih =>
    show (if t = s then some (Value.bool true) else getE (seenE N) s) = _
    by_cases h : t = s
    · subst h; simp
    · have h' : ¬ s = t := fun e => h e.symm
      rw [if_neg h, ih]
      simp [h']
theorem setE_seen (N : List (List UInt8)) (s : List UInt8) (h : N.contains s = false) : setE (seenE N) s (.bool true) = seenE (N ++ [s]) := by
  induction N with
  | nil => rfl
  | cons t N ih =>
    have h' : ¬ s = t ∧ N.contains s = false := by simpa using h
    show (if t = s then (s, Value.bool true) :: seenE N else (t, Value.bool true) :: setE (seenE N) s (.bool true)) = _
    rw [if_neg (fun e => h'.1 e.symm), ih h'.2]
    rfl
theorem Tryz.umSeen : Tryz.prog.underlying 120 = some (.map 9 4) := by kernel_rfl
theorem Tryz.zeroBool (w : World) : (zeroValue 4).run Tryz.prog w = .ok (.bool false) w := by kernel_rfl
theorem MapAt.grown {W W' : World} {r : Nat} {E : Ents} {row : Option Nat} (h : MapAt W r E) (hg : W.grownBy W' row) (hr : row ≠ some r) : MapAt W' r E := by
  have hl := h.lt
  obtain ⟨es, c, h, h2⟩ := h
  exact ⟨es, c, (hg.block r hl (fun e => hr e.symm)).trans h, h2⟩

theorem slAt_both {n0 : Nat} {W : World} {A : Option Addr} {c : Nat} {D : List (List UInt8)} (h : SlAt strCells 1 (fun i => i < n0) W A c D) : SlAt strCells 1 (fun i => i < n0 ∨ W.heap.size ≤ i) W A c D := by
  refine ⟨h.1, h.2.1, fun i d hi => ?_⟩
  obtain ⟨g, o, h1, h2, h3⟩ := h.2.2 i d hi
  have := World.block_lt_of_cell? _ _ (h3 0 (.string (strL d)) rfl)
  exact ⟨g, o, h1, by simp only at this h2; omega, h3⟩

set_option maxRecDepth 100000 in
set_option maxHeartbeats 6400000 in
theorem refers_any (nm : List UInt8) (A : Option Addr) (c : Nat) (D : List FieldD) (S : Nat → Prop) (w : World) (h : SlAt FieldD.cells 15 S w A c D) (hlen : (D.flatMap targB).length ≤ 4000000000)
    (ht : ∀ d ∈ D, ∀ wx, Below w.heap.size w wx → Calls Tryz.prog 74 #[d.agg] wx fun e w' => ∃ A c, e = .returned (.slice A (targB d).length c) ∧ SlAt strCells 1 (fun i => i < wx.heap.size) w' A c (targB d) ∧ Below wx.heap.size wx w') :
    Calls Tryz.prog 36 #[.agg #[.string (strL nm), .slice A D.length c]] w fun e w' => ∃ qb A' c', e = .returned (.func (.func 101) #[] #[.pointer (some ⟨qb, 0, none⟩)]) ∧ Below w.heap.size w w' ∧ SeqAt w.heap.size w' qb (refsN D) A' c' := by
  have hl : D.length ≤ 9223372036854775807 := Nat.le_trans h.1 h.2.1
  have hal := below_alloc w (.cells #[.string (strL nm), .slice A D.length c] 36)
  have hbx : (w.alloc (.cells #[.string (strL nm), .slice A D.length c] 36)).heap[w.heap.size]? = some (.cells #[.string (strL nm), .slice A D.length c] 36 (0, 0)) := heap_alloc_new w _
  have h1 := h.below hal
  obtain ⟨b, eb⟩ : ∃ b, w.heap.size = b := ⟨_, rfl⟩
  obtain ⟨w1, hw1⟩ : ∃ w1, w.alloc (.cells #[.string (strL nm), .slice A D.length c] 36) = w1 := ⟨_, rfl⟩
  rw [hw1] at hal hbx h1
  rw [eb] at hbx
  have hbl : b < w1.heap.size := (Array.getElem?_eq_some_iff.1 hbx).1
  have KEEP : Hid (∀ wx, Below w1.heap.size w1 wx → wx.cell? ⟨b, 0, none⟩ = some (.string (strL nm)) ∧ wx.cell? ⟨b, 1, none⟩ = some (.slice A D.length c)) := Lib.hid (fun wx hb => by
    have := (hb.block b hbl).trans hbx
    exact ⟨by simp [World.cell?, this], by simp [World.cell?, this]⟩)
  have hm0 := MapAt.new w1
  have hb2 := below_alloc w1 (.map #[] 0)
  have hmk := run_makeMap_plain (P := Tryz.prog) w1 120
  have hsz2 : (w1.alloc (.map #[] 0)).heap.size = w1.heap.size + 1 := by simp
  obtain ⟨r, er⟩ : ∃ r, w1.heap.size = r := ⟨_, rfl⟩
  obtain ⟨w2, hw2⟩ : ∃ w2, w1.alloc (.map #[] 0) = w2 := ⟨_, rfl⟩
  rw [hw2] at hm0 hb2 hmk hsz2
  rw [er] at hm0 hmk hsz2
  obtain ⟨z0, z1⟩ := KEEP.out w2 hb2
  obtain ⟨RN, hRN⟩ : ∃ RN, refsN D = RN := ⟨_, rfl⟩
  rw [hRN]
  have HRN := Lib.hid hRN
  clear hRN
  have HT := Lib.hid (fun d hd wx (hb : Below w1.heap.size w1 wx) => ht d hd wx (hal.trans (hb.mono hal.size)))
  have HLN := Lib.hid hlen
  have HW := Lib.hid hw1
  have HW2 := Lib.hid hw2
  have EB := Lib.hid eb
  have ER := Lib.hid er
  have HAL := Lib.hid hal
  have H1 := Lib.hid h1
  have HM0 := Lib.hid hm0
  have HB2 := Lib.hid hb2
  have HSZ := Lib.hid hsz2
  have HVN := fun A n c w => Lib.hid (valuesStr A n c w)
  obtain ⟨i0, hi, hz0, hz1, hz2⟩ := info_parts Tryz.infoStr
  have HI := Lib.hid hi
  clear h hw1 hw2 eb er hal hbx h1 hbl hm0 hb2 hi ht hlen hsz2
  go_enter Tryz.func36, Tryz.ntmps36
  go_upto_region 1 with fail
  rw [HW.out, EB.out]
  go_wp2_with fail
  clear z0 z1 hmk
  go_loopw [3, 13] (fun out x13 wr => ∃ i : Nat, i ≤ D.length ∧ x13 = .int .i64 ((i : Nat) : Int) ∧ wr.ownsRow (r + 1) 9 1 out (addAll [] ((D.take i).flatMap targB)).length ((addAll [] ((D.take i).flatMap targB)).map fun t => .string (strL t)) ∧ MapAt wr r (seenE (addAll [] ((D.take i).flatMap targB))) ∧ Below w1.heap.size w1 wr) (fun _ x13 _ => D.length - (intOf x13).toNat)
  case atStart => exact ⟨0, Nat.zero_le _, rfl, ⟨rfl, .inl ⟨rfl, rfl⟩⟩, HM0.out, HB2.out⟩
  case round =>
    obtain ⟨i, hi, rfl, hrow, hm, hbw⟩ := hrel
    by_cases hlt : i < D.length
    · obtain ⟨d, hd⟩ : ∃ d, D[i]? = some d := ⟨_, List.getElem?_eq_getElem hlt⟩
      have HDM := Lib.hid (show d ∈ D from List.mem_of_getElem? hd)
      have hstep : addAll [] ((D.take (i + 1)).flatMap targB) = addAll (addAll [] ((D.take i).flatMap targB)) (targB d) := by rw [(drop_of hd).2, List.flatMap_append, addAll_append]; simp
      have hcnt : (addAll [] ((D.take i).flatMap targB)).length + (targB d).length ≤ 4000000000 := by
        have h1 := addAll_len ((D.take i).flatMap targB) []
        have h2 : ((D.take (i + 1)).flatMap targB).length ≤ (D.flatMap targB).length := by
          conv => rhs; rw [← List.take_append_drop (i + 1) D, List.flatMap_append, List.length_append]
          omega
        rw [(drop_of hd).2, List.flatMap_append, List.length_append] at h2
        simp only [List.flatMap_cons, List.flatMap_nil, List.append_nil, List.length_nil, Nat.zero_add] at h1 h2
        have h3 := HLN.out
        omega
      obtain ⟨g, o, rfl, hx⟩ := (H1.out.rest (Rest.below hbw) (fun _ _ e => e)).at_ hd
      obtain ⟨N, hN⟩ : ∃ N, addAll [] ((D.take i).flatMap targB) = N := ⟨_, rfl⟩
      rw [hN] at hstep hcnt hrow hm
      obtain ⟨A1, c1, rfl⟩ := row_shape hrow
      have x0 : wr.cell? ⟨g, o + i * 15, none⟩ = some (.string (strL d.name)) := hx 0 _ rfl
      have x1 : wr.cell? ⟨g, o + i * 15 + 1, none⟩ = some (.int .i64 d.kind) := hx 1 _ rfl
      have x2 : wr.cell? ⟨g, o + i * 15 + 2, none⟩ = some (.int .i64 d.bits) := hx 2 _ rfl
      have x3 : wr.cell? ⟨g, o + i * 15 + 3, none⟩ = some (.bool d.little) := hx 3 _ rfl
      have x4 : wr.cell? ⟨g, o + i * 15 + 4, none⟩ = some (.bool d.loose) := hx 4 _ rfl
      have x5 : wr.cell? ⟨g, o + i * 15 + 5, none⟩ = some (.int .i64 d.low) := hx 5 _ rfl
      have x6 : wr.cell? ⟨g, o + i * 15 + 6, none⟩ = some (.int .i64 d.high) := hx 6 _ rfl
      have x7 : wr.cell? ⟨g, o + i * 15 + 7, none⟩ = some (.int .i64 d.base) := hx 7 _ rfl
      have x8 : wr.cell? ⟨g, o + i * 15 + 8, none⟩ = some (.slice d.ta d.terms.length d.tc) := hx 8 _ rfl
      have x9 : wr.cell? ⟨g, o + i * 15 + 9, none⟩ = some (.string (strL d.of_)) := hx 9 _ rfl
      have x10 : wr.cell? ⟨g, o + i * 15 + 10, none⟩ = some (.string (strL d.tag)) := hx 10 _ rfl
      have x11 : wr.cell? ⟨g, o + i * 15 + 11, none⟩ = some (.string (strL d.from_)) := hx 11 _ rfl
      have x12 : wr.cell? ⟨g, o + i * 15 + 12, none⟩ = some (.slice d.ca d.cases.length d.cc) := hx 12 _ rfl
      have x13 : wr.cell? ⟨g, o + i * 15 + 13, none⟩ = some (.int .i64 d.check) := hx 13 _ rfl
      have x14 : wr.cell? ⟨g, o + i * 15 + 14, none⟩ = some (.int .i64 d.key) := hx 14 _ rfl
      have hal5 := below_alloc wr (.cells #[.string (strL d.name), .int .i64 d.kind, .int .i64 d.bits, .bool d.little, .bool d.loose, .int .i64 d.low, .int .i64 d.high, .int .i64 d.base, .slice d.ta d.terms.length d.tc, .string (strL d.of_), .string (strL d.tag), .string (strL d.from_), .slice d.ca d.cases.length d.cc, .int .i64 d.check, .int .i64 d.key] 55)
      have hbx5 := FBox.new wr d
      obtain ⟨tb, etb⟩ : ∃ tb, wr.heap.size = tb := ⟨_, rfl⟩
      obtain ⟨w5, hw5⟩ : ∃ w5, wr.alloc (.cells #[.string (strL d.name), .int .i64 d.kind, .int .i64 d.bits, .bool d.little, .bool d.loose, .int .i64 d.low, .int .i64 d.high, .int .i64 d.base, .slice d.ta d.terms.length d.tc, .string (strL d.of_), .string (strL d.tag), .string (strL d.from_), .slice d.ca d.cases.length d.cc, .int .i64 d.check, .int .i64 d.key] 55) = w5 := ⟨_, rfl⟩
      rw [hw5] at hal5 hbx5
      rw [etb] at hbx5
      have y0 := hbx5.c0
      have y1 := hbx5.c1
      have y2 := hbx5.c2
      have y3 := hbx5.c3
      have y4 := hbx5.c4
      have y5 := hbx5.c5
      have y6 := hbx5.c6
      have y7 := hbx5.c7
      have y8 := hbx5.c8
      have y9 := hbx5.c9
      have y10 := hbx5.c10
      have y11 := hbx5.c11
      have y12 := hbx5.c12
      have y13 := hbx5.c13
      have y14 := hbx5.c14
      have hb5 := hbw.trans (hal5.mono hbw.size)
      have HTG := HT.out d HDM.out w5 hb5
      unfold FieldD.agg at HTG
      have HTG := Lib.hid HTG
      obtain ⟨T, hT⟩ : ∃ T, targB d = T := ⟨_, rfl⟩
      rw [hT] at HTG hstep hcnt
      have HST := Lib.hid hstep
      have HCN := Lib.hid hcnt
      have ROW5 := Lib.hid (Rest.row (S := fun _ => False) (Rest.below hal5) hrow (fun _ _ e => e))
      have M5 := Lib.hid (hm.below hal5 hm.lt)
      have RB := Lib.hid (show ∀ k, (Value.slice A1 N.length c1).ownBlock = some k → k < w5.heap.size from fun k hk => by
        rcases hrow.2 with ⟨hv, _⟩ | ⟨g, cap, cur, hv, _, hgg, _⟩
        · rw [hv] at hk; simp [Value.ownBlock] at hk
        · rw [hv] at hk
          simp [Value.ownBlock] at hk
          subst hk
          exact Nat.lt_of_lt_of_le (Array.getElem?_eq_some_iff.1 hgg).1 hal5.size)
      have B5 := Lib.hid hb5
      have W5 := Lib.hid hw5
      have ETB := Lib.hid etb
      have RLT := Lib.hid (show r < w5.heap.size from Nat.lt_of_lt_of_le hm.lt hal5.size)
      clear hd hx hal5 hbx5 etb hw5 hrow hm hbw hb5 hstep hcnt hN hT
      go_upto_region 6 with fail
      rw [W5.out, ETB.out]
      clear x0 x1 x2 x3 x4 x5 x6 x7 x8 x9 x10 x11 x12 x13 x14
      go_wp2_with fail
      refine HTG.out.mono ?_
      rintro e w6 ⟨A', c', rfl, hs, hb6⟩
      have hb16 := B5.out.trans (hb6.mono B5.out.size)
      have HS6 := Lib.hid (slAt_both hs)
      have HTL := Lib.hid (show T.length ≤ 9223372036854775807 from Nat.le_trans hs.1 hs.2.1)
      have ROW6 := Lib.hid (Rest.row (S := fun _ => False) (Rest.below hb6) ROW5.out (fun _ _ e => e))
      have M6 := Lib.hid (M5.out.below hb6 RLT.out)
      have B6 := Lib.hid hb16
      have S56 := Lib.hid hb6.size
      clear hs hb6 hb16 y0 y1 y2 y3 y4 y5 y6 y7 y8 y9 y10 y11 y12 y13 y14
      go_wp2_with fail
      go_loopw [3, 20] (fun out x20 wq => ∃ j : Nat, j ≤ T.length ∧ x20 = .int .i64 ((j : Nat) : Int) ∧ wq.ownsRow (r + 1) 9 1 out (addAll N (T.take j)).length ((addAll N (T.take j)).map fun t => .string (strL t)) ∧ MapAt wq r (seenE (addAll N (T.take j))) ∧ (∀ k, out.ownBlock = some k → k < w5.heap.size ∨ w6.heap.size ≤ k) ∧ Rest (fun k => r ≤ k ∧ (k < w5.heap.size ∨ w6.heap.size ≤ k)) w6 wq) (fun _ x20 _ => T.length - (intOf x20).toNat)
      case atStart => exact ⟨0, Nat.zero_le _, rfl, ROW6.out, M6.out, fun k hk => .inl (RB.out k hk), Rest.refl _ _⟩
      case round =>
        obtain ⟨j, hj, rfl, hrow, hm, hblk, hrs⟩ := hrel
        have hl2 := addAll_len (T.take j) N
        have hl3 : (T.take j).length ≤ T.length := by rw [List.length_take]; omega
        have htl := HTL.out
        by_cases hjl : j < T.length
        · obtain ⟨s, hs⟩ : ∃ s, T[j]? = some s := ⟨_, List.getElem?_eq_getElem hjl⟩
          have hst2 := addAll_step (N := N) hs
          obtain ⟨M, hM⟩ : ∃ M, addAll N (T.take j) = M := ⟨_, rfl⟩
          rw [hM] at hrow hm hst2 hl2
          have hml : M.length ≤ 4000000000 := by have := HCN.out; omega
          obtain ⟨A2, c2, rfl⟩ := row_shape hrow
          obtain ⟨g, o, rfl, hx⟩ := (HS6.out.rest hrs (fun k _ e => e.2)).at_ hs
          have x0 : wr.cell? ⟨g, o + j, none⟩ = some (.string (strL s)) := by simpa using hx 0 _ rfl
          have hlook := run_look (P := Tryz.prog) Tryz.umSeen Tryz.ustr (Tryz.zeroBool wr) hm s
          rw [getE_seen] at hlook
          have SZ6 := Lib.hid hrs.size
          cases hin : M.contains s with
          | true =>
            rw [hin] at hlook
            simp only [if_true, Option.getD_some] at hlook
            have hst3 : addAll N (T.take (j + 1)) = M := by rw [hst2]; unfold addN; rw [hin]; rfl
            have HST3 := Lib.hid hst3
            have ROW := Lib.hid hrow
            have MM := Lib.hid hm
            have BLK := Lib.hid hblk
            have RS := Lib.hid hrs
            clear hs hst2 hst3 hM hx hrow hm hblk hrs hin hl2 hl3 hml
            go_wp2_with fail
            go_roundw
            case rel => exact ⟨j + 1, by omega, by go_num, by rw [HST3.out]; exact ROW.out, by rw [HST3.out]; exact MM.out, BLK.out, RS.out⟩
            case measure => simp [intOf]; omega
          | false =>
            rw [hin] at hlook
            simp only [Bool.false_eq_true, if_false, Option.getD_none] at hlook
            have hst3 : addAll N (T.take (j + 1)) = M ++ [s] := by rw [hst2]; unfold addN; rw [hin]; rfl
            obtain ⟨w8, hrun, hm8, hr8⟩ := run_store (P := Tryz.prog) Tryz.umSeen Tryz.ustr hm s (.bool true)
            rw [setE_seen M s hin] at hm8
            have hrow8 := Rest.row hr8 hrow (fun k hk e => by have := row_ge hrow k hk; omega)
            have hal9 := below_alloc w8 (.cells #[.string (strL s)] 9)
            have hrow9 := Rest.row (S := fun _ => False) (Rest.below hal9) hrow8 (fun _ _ e => e)
            have hm9 := hm8.below hal9 hm8.lt
            have hcn : ∀ j u, [Value.string (strL s)][j]? = some u → (w8.alloc (.cells #[.string (strL s)] 9)).cell? ((⟨w8.heap.size, 0, none⟩ : Addr).add j) = some u := fun j u hu => by
              rw [add_at, Nat.zero_add, cell_new_at w8 _ _ _ j rfl]
              simpa using hu
            have hrs9 : Rest (fun k => r ≤ k ∧ (k < w5.heap.size ∨ w6.heap.size ≤ k)) w6 (w8.alloc (.cells #[.string (strL s)] 9)) := (hrs.trans hr8 (fun k _ e => by rw [e]; exact ⟨Nat.le_refl _, .inl RLT.out⟩)).alloc _
            have HST3 := Lib.hid hst3
            have ROW9 := Lib.hid hrow9
            have M9 := Lib.hid hm9
            have HCC := Lib.hid hcn
            have RS9 := Lib.hid hrs9
            have BLK := Lib.hid hblk
            have RGE := Lib.hid (row_ge hrow)
            have HGE : Hid (r + 1 ≤ (w8.alloc (.cells #[.string (strL s)] 9)).heap.size) := Lib.hid (hm9.lt)
            clear hs hst2 hst3 hM hx hrow hm hblk hrs hin hl2 hl3 hm8 hr8 hrow8 hal9 hrow9 hm9 hcn hrs9
            go_wp2_with (at_builtin; go_must (refine wpList_append_own_at _ rfl _ _ 94 rfl (r + 1) 9 i0 (.string ⟨#[]⟩) 1 16 Tryz.underlying94 HI.out hz0 hz1 hz2 rfl (by decide) _ _ _ rfl ROW9.out ⟨w8.heap.size, 0, none⟩ 1 1 [.string (strL s)] rfl rfl HCC.out (fun u hu => by simp only [List.mem_cons, List.not_mem_nil, or_false] at hu; rw [hu]; rfl) (by unfold maxLen; omega) (by omega) HGE.out ?_); go_must (intro v1 w10 hown1 hgrow1 _ hblk1); have HO := Lib.hid hown1; have HG := Lib.hid hgrow1; have HK := Lib.hid hblk1; clear hown1 hgrow1 hblk1)
            have hm10 := M9.out.grown HG.out (fun e => by have := RGE.out r e; omega)
            have hrs10 := RS9.out.grown HG.out (fun k hk _ => ⟨by have := RGE.out k hk; omega, BLK.out k hk⟩)
            have hblk10 : ∀ k, v1.ownBlock = some k → k < w5.heap.size ∨ w6.heap.size ≤ k := fun k hk => by
              rcases HK.out with h | h
              · exact BLK.out k (h ▸ hk)
              · have h2 := h.symm.trans hk
                simp only [Option.some.injEq] at h2
                have h3 := RS9.out.size
                omega
            have M10 := Lib.hid hm10
            have RS10 := Lib.hid hrs10
            have BLK10 := Lib.hid hblk10
            clear hm10 hrs10 hblk10
            go_wp2_with fail
            go_roundw
            case rel =>
              refine ⟨j + 1, by omega, by go_num, ?_, by rw [HST3.out]; exact M10.out, BLK10.out, RS10.out⟩
              rw [HST3.out, List.length_append, List.map_append]
              exact HO.out
            case measure => simp [intOf]; omega
        · obtain rfl : j = T.length := by omega
          rw [List.take_length] at hrow hm
          have ROW := Lib.hid hrow
          have MM := Lib.hid hm
          have BB := Lib.hid (B6.out.trans (hrs.toBelow w1.heap.size B6.out.size (fun k hk e => by have := ER.out; omega)))
          clear hrow hm hblk hrs hl2 hl3
          go_wp2_with fail
          go_roundw
          case rel => exact ⟨i + 1, by omega, by go_num, by rw [HST.out]; exact ROW.out, by rw [HST.out]; exact MM.out, BB.out⟩
          case measure => simp [intOf]; omega
    · obtain rfl : i = D.length := by omega
      rw [List.take_length] at hrow
      rw [show addAll [] (D.flatMap targB) = RN from HRN.out] at hrow
      obtain ⟨A1, c1, rfl⟩ := row_shape hrow
      have ROW := Lib.hid hrow
      have HBW := Lib.hid hbw
      clear hrow hbw hm
      go_wp2_with fail
      refine ((HVN _ _ _ _).out).mono ?_
      rintro e w3 ⟨rfl, hw3⟩
      have hb3 : Below wr.heap.size wr w3 := by rw [← hw3]; exact below_alloc _ _
      have hx3 : Boxed w3 wr.heap.size 94 (.slice A1 RN.length c1) := by rw [← hw3]; exact Boxed.new wr _ _
      have hrow3 := Rest.row (S := fun _ => False) (Rest.below hb3) ROW.out (fun _ _ e => e)
      have hs3 := slAt_names (base := r + 1) hrow3 rfl
      have HB3 := Lib.hid (HAL.out.trans ((HBW.out.trans (hb3.mono HBW.out.size)).mono HAL.out.size))
      have HX3 := Lib.hid hx3
      have HS3 := Lib.hid (Nat.le_trans HAL.out.size HBW.out.size)
      have HSL := Lib.hid hs3
      have HLE := Lib.hid (show w.heap.size ≤ r + 1 by have h1 := HAL.out.size; have h2 := ER.out; omega)
      clear hw3 hb3 hx3 hrow3 hs3
      go_wp2_with fail
      go_ret
      refine ⟨_, A1, c1, rfl, HB3.out, HS3.out, HX3.out, HSL.out.1, HSL.out.2.1, fun k x hk => ?_⟩
      obtain ⟨g, o, h1, h2, h3⟩ := HSL.out.2.2 k x hk
      exact ⟨g, o, h1, fun hlt => h2 (Nat.lt_of_lt_of_le hlt HLE.out), h3⟩
end Go.Proofs.YtbpkppmbbpoohaaGreat
