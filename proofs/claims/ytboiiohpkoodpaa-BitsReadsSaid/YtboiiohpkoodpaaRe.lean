/- The document's own answer on a call of a reader: the place behind it, the number, the bytes and the code. Conditions: the bits are those of at most 1048576 bytes, the place lies in them, and the call's kind is below 256. -/
import Derived.Test.YtboiiohpkoodpaaBd
import Derived.Test.YtboiiohpkoodpaaRd
namespace Go.Proofs.Ytboiiohpkoodpaa
open Go.RowKit Go.Shelf

/-- What the document answers on a call of a reader. -/
def RefGave (to v : Nat) (bs : List Nat) (code : Int) (w : World) (e : Ending) (w' : World) : Prop :=
  ∃ A c, e = .returned (.tuple #[.int .i64 to, .int .i64 v, .slice A bs.length c, .int .i64 code]) ∧ w'.ownsRow w.heap.size 5 1 (.slice A bs.length c) bs.length (u8s bs) ∧ Below w.heap.size w w'
theorem gave_nil (to v : Nat) (code : Int) {w w' : World} (h : Below w.heap.size w w') : RefGave to v [] code w (.returned (.tuple #[.int .i64 to, .int .i64 v, .slice none 0 0, .int .i64 code])) w' :=
  ⟨none, 0, rfl, ⟨by simp [u8s], .inl ⟨rfl, rfl⟩⟩, h⟩

theorem actBox_two (w : World) (kd V N : Int) (A : Option Addr) (m c : Nat) : (actBox w kd V N A m c).cell? ⟨w.heap.size, 2, none⟩ = some (.int .i64 N) := by
  have h : (actBox w kd V N A m c).heap[w.heap.size]? = some (.cells #[.int .u8 kd, .int .i64 V, .int .i64 N, .slice A m c] 30 (0, 0)) := (MapKept.heap_alloc w _).1
  simp [World.cell?, h]
theorem actBox_later {w w' : World} {kd V N : Int} {A : Option Addr} {m c : Nat} (h : Below (actBox w kd V N A m c).heap.size (actBox w kd V N A m c) w') : w'.cell? ⟨w.heap.size, 2, none⟩ = some (.int .i64 N) :=
  (h.cell (p := ⟨w.heap.size, 2, none⟩) (by simp [actBox])).trans (actBox_two w kd V N A m c)

set_option maxRecDepth 100000 in
set_option maxHeartbeats 800000 in
theorem reading_get (s : Value) (B : List Nat) (p : Nat) (kd V N : Int) (A : Option Addr) (m c : Nat) (w : World) (h : BitE w s (unpack B)) (hBl : B.length ≤ 1048576) (hp : p ≤ 8 * B.length) (hk : 0 ≤ kd) (hk2 : kd ≤ 255) (hr : kd % 5 = 0) :
    Calls Try.prog 23 #[s, .int .i64 p, .agg #[.int .u8 kd, .int .i64 V, .int .i64 N, .slice A m c]] w
      (RefGave (if getCode B.length p N = 0 then p + N.toNat else p) (if getCode B.length p N = 0 then val (((unpack B).drop p).take N.toNat) else 0) [] (getCode B.length p N) w) := by
  have hb := actBox_below w kd V N A m c
  have hg := refGet s B p N (actBox w kd V N A m c) (h.later hb) hBl hp
  obtain ⟨C, hC⟩ : ∃ C, getCode B.length p N = C := ⟨_, rfl⟩
  have q0 : (kd % 5 == 0) = true := by simp [hr]
  by_cases hc : C = 0
  · obtain ⟨k, rfl, k1, k2, k3⟩ := get_zero_iff (hC.trans hc)
    subst hc
    rw [hC] at hg ⊢
    rw [if_pos rfl] at hg ⊢
    rw [if_pos rfl]
    obtain ⟨x, hx⟩ : ∃ x, val (((unpack B).drop p).take ((k : Nat) : Int).toNat) = x := ⟨_, rfl⟩
    rw [hx] at hg ⊢
    rw [show ((k : Nat) : Int).toNat = k by omega]
    have HG := Lib.hid hg
    have HB := Lib.hid hb
    clear hg hr hb hC h hx
    go_enter Try.func23, Try.ntmps23
    go_wp2_with fail
    refine HG.out.mono ?_
    rintro e w1 ⟨rfl, rfl⟩
    have n2 := actBox_two w kd V ((k : Nat) : Int) A m c
    go_wp2
    (try simp only [Exit.inBlock, Exit.then]); refine bodyPost_ret (by simp [results, Try.results23, go_sem, *]; try rfl) rfl ?_
    exact gave_nil (p + k) x 0 HB.out
  · rw [hC] at hg ⊢
    rw [if_neg hc] at hg ⊢
    rw [if_neg hc]
    have HG := Lib.hid hg
    have HB := Lib.hid hb
    have qc : (C == 0) = false := by simpa using hc
    clear hg hr hb hC h
    go_enter Try.func23, Try.ntmps23
    go_wp2_with fail
    refine HG.out.mono ?_
    rintro e w1 ⟨rfl, rfl⟩
    have n2 := actBox_two w kd V (N) A m c
    go_wp2
    (try simp only [Exit.inBlock, Exit.then]); refine bodyPost_ret (by simp [results, Try.results23, go_sem, *]; try rfl) rfl ?_
    exact gave_nil p 0 C HB.out

set_option maxRecDepth 100000 in
set_option maxHeartbeats 800000 in
theorem reading_little (s : Value) (B : List Nat) (p : Nat) (kd V N : Int) (A : Option Addr) (m c : Nat) (w : World) (h : BitE w s (unpack B)) (hB : ∀ c ∈ B, c < 256) (hBl : B.length ≤ 1048576) (hp : p ≤ 8 * B.length) (hk : 0 ≤ kd) (hk2 : kd ≤ 255) (hr : kd % 5 = 1) :
    Calls Try.prog 23 #[s, .int .i64 p, .agg #[.int .u8 kd, .int .i64 V, .int .i64 N, .slice A m c]] w
      (RefGave (if rlittleCode B.length p N = 0 then p + 8 * N.toNat else p) (if rlittleCode B.length p N = 0 then leVal ((B.drop (p / 8)).take N.toNat) else 0) [] (rlittleCode B.length p N) w) := by
  have hb := actBox_below w kd V N A m c
  have hg := refLittle s B p N (actBox w kd V N A m c) (h.later hb) hB hBl hp
  obtain ⟨C, hC⟩ : ∃ C, rlittleCode B.length p N = C := ⟨_, rfl⟩
  have q0 : (kd % 5 == 0) = false := by simp [hr]
  have q1 : (kd % 5 == 1) = true := by simp [hr]
  by_cases hc : C = 0
  · obtain ⟨k, rfl, k1, k2, k3, k4⟩ := rlittle_zero_iff (hC.trans hc)
    subst hc
    rw [hC] at hg ⊢
    rw [if_pos rfl] at hg ⊢
    rw [if_pos rfl]
    obtain ⟨x, hx⟩ : ∃ x, leVal ((B.drop (p / 8)).take ((k : Nat) : Int).toNat) = x := ⟨_, rfl⟩
    rw [hx] at hg ⊢
    rw [show ((k : Nat) : Int).toNat = k by omega]
    have HG := Lib.hid hg
    have HB := Lib.hid hb
    clear hg hr hb hC h hx hB
    go_enter Try.func23, Try.ntmps23
    go_wp2_with fail
    refine HG.out.mono ?_
    rintro e w1 ⟨rfl, h1⟩
    have n2 := actBox_later h1
    have H1 := Lib.hid h1
    clear h1
    go_wp2
    (try simp only [Exit.inBlock, Exit.then]); refine bodyPost_ret (by simp [results, Try.results23, go_sem, *]; try rfl) rfl ?_
    exact gave_nil (p + 8 * k) x 0 (HB.out.trans (H1.out.mono HB.out.size))
  · rw [hC] at hg ⊢
    rw [if_neg hc] at hg ⊢
    rw [if_neg hc]
    have HG := Lib.hid hg
    have HB := Lib.hid hb
    have qc : (C == 0) = false := by simpa using hc
    clear hg hr hb hC h hB
    go_enter Try.func23, Try.ntmps23
    go_wp2_with fail
    refine HG.out.mono ?_
    rintro e w1 ⟨rfl, h1⟩
    have n2 := actBox_later h1
    have H1 := Lib.hid h1
    clear h1
    go_wp2
    (try simp only [Exit.inBlock, Exit.then]); refine bodyPost_ret (by simp [results, Try.results23, go_sem, *]; try rfl) rfl ?_
    exact gave_nil p 0 C (HB.out.trans (H1.out.mono HB.out.size))

set_option maxRecDepth 100000 in
set_option maxHeartbeats 800000 in
theorem reading_take (s : Value) (B : List Nat) (p : Nat) (kd V N : Int) (A : Option Addr) (m c : Nat) (w : World) (h : BitE w s (unpack B)) (hB : ∀ c ∈ B, c < 256) (hBl : B.length ≤ 1048576) (hp : p ≤ 8 * B.length) (hk : 0 ≤ kd) (hk2 : kd ≤ 255) (hr : kd % 5 = 2) :
    Calls Try.prog 23 #[s, .int .i64 p, .agg #[.int .u8 kd, .int .i64 V, .int .i64 N, .slice A m c]] w
      (RefGave (if takeCode B.length p N = 0 then p + 8 * N.toNat else p) 0 (tBytes B p N) (takeCode B.length p N) w) := by
  have hb := actBox_below w kd V N A m c
  have hg := refTake s B p N (actBox w kd V N A m c) (h.later hb) hB hBl hp
  obtain ⟨C, hC⟩ : ∃ C, takeCode B.length p N = C := ⟨_, rfl⟩
  obtain ⟨bs, hbs⟩ : ∃ bs, tBytes B p N = bs := ⟨_, rfl⟩
  rw [hbs] at hg ⊢
  have q0 : (kd % 5 == 0) = false := by simp [hr]
  have q1 : (kd % 5 == 1) = false := by simp [hr]
  have q2 : (kd % 5 == 2) = true := by simp [hr]
  by_cases hc : C = 0
  · obtain ⟨k, rfl, k3, k4⟩ := take_zero_iff' hp (hC.trans hc)
    subst hc
    rw [hC] at hg ⊢
    rw [if_pos rfl]
    rw [show ((k : Nat) : Int).toNat = k by omega]
    have HG := Lib.hid hg
    have HB := Lib.hid hb
    clear hg hr hb hC h hB hbs
    go_enter Try.func23, Try.ntmps23
    go_wp2_with fail
    refine HG.out.mono ?_
    rintro e w1 ⟨A2, c2, rfl, h1, h2⟩
    have H1 := Lib.hid h1
    have n2 := actBox_later h2
    have H2 := Lib.hid h2
    clear h1 h2
    go_wp2
    (try simp only [Exit.inBlock, Exit.then]); refine bodyPost_ret (by simp [results, Try.results23, go_sem, *]; try rfl) rfl ?_
    exact ⟨A2, c2, rfl, Joins.ownsRow_le H1.out HB.out.size, HB.out.trans (H2.out.mono HB.out.size)⟩
  · rw [hC] at hg ⊢
    rw [if_neg hc]
    have HG := Lib.hid hg
    have HB := Lib.hid hb
    have qc : (C == 0) = false := by simpa using hc
    clear hg hr hb hC h hB hbs
    go_enter Try.func23, Try.ntmps23
    go_wp2_with fail
    refine HG.out.mono ?_
    rintro e w1 ⟨A2, c2, rfl, h1, h2⟩
    have H1 := Lib.hid h1
    have n2 := actBox_later h2
    have H2 := Lib.hid h2
    clear h1 h2
    go_wp2
    (try simp only [Exit.inBlock, Exit.then]); refine bodyPost_ret (by simp [results, Try.results23, go_sem, *]; try rfl) rfl ?_
    exact ⟨A2, c2, rfl, Joins.ownsRow_le H1.out HB.out.size, HB.out.trans (H2.out.mono HB.out.size)⟩

set_option maxRecDepth 100000 in
set_option maxHeartbeats 800000 in
theorem reading_skip (s : Value) (B : List Nat) (p : Nat) (kd V N : Int) (A : Option Addr) (m c : Nat) (w : World) (h : BitE w s (unpack B)) (hBl : B.length ≤ 1048576) (hp : p ≤ 8 * B.length) (hk : 0 ≤ kd) (hk2 : kd ≤ 255) (hr : kd % 5 = 3) :
    Calls Try.prog 23 #[s, .int .i64 p, .agg #[.int .u8 kd, .int .i64 V, .int .i64 N, .slice A m c]] w
      (RefGave (if skipCode B.length p N = 0 then p + N.toNat else p) 0 [] (skipCode B.length p N) w) := by
  have hb := actBox_below w kd V N A m c
  have hul := unpack_length B
  have q0 : (kd % 5 == 0) = false := by simp [hr]
  have q1 : (kd % 5 == 1) = false := by simp [hr]
  have q2 : (kd % 5 == 2) = false := by simp [hr]
  have q3 : (kd % 5 == 3) = true := by simp [hr]
  by_cases h0 : N < 0
  · have hC : skipCode B.length p N = 2 := by unfold skipCode; rw [if_pos h0]
    rw [hC, if_neg (by decide)]
    have HB := Lib.hid hb
    clear hr hb hC h hul
    go_enter Try.func23, Try.ntmps23
    go_wp2
    (try simp only [Exit.inBlock, Exit.then]); refine bodyPost_ret (by simp [results, Try.results23, go_sem, *]; try rfl) rfl ?_
    exact gave_nil p 0 2 HB.out
  · by_cases h2 : 8 * (B.length : Int) - p < N
    · have hC : skipCode B.length p N = 4 := by unfold skipCode; rw [if_neg h0, if_pos h2]
      rw [hC, if_neg (by decide)]
      obtain ⟨A2, c2, rfl⟩ := h.form
      have hg := refRead_no A2 (unpack B).length c2 p N (actBox w kd V N A m c) (by omega) (by omega) (by omega)
      have HG := Lib.hid hg
      have HB := Lib.hid hb
      clear hg hr hb hC h hul
      go_enter Try.func23, Try.ntmps23
      go_wp2_with fail
      refine HG.out.mono ?_
      rintro e w1 ⟨rfl, rfl⟩
      go_wp2
      (try simp only [Exit.inBlock, Exit.then]); refine bodyPost_ret (by simp [results, Try.results23, go_sem, *]; try rfl) rfl ?_
      exact gave_nil p 0 4 HB.out
    · have hC : skipCode B.length p N = 0 := by unfold skipCode; rw [if_neg h0, if_neg h2]
      obtain ⟨k, rfl⟩ := Int.eq_ofNat_of_zero_le (show 0 ≤ N by omega)
      rw [hC, if_pos rfl, show ((k : Nat) : Int).toNat = k by omega]
      have hg := refRead_ok s (unpack B) p k (actBox w kd V k A m c) (h.later hb) (by omega) (by omega)
      have HG := Lib.hid hg
      have HB := Lib.hid hb
      clear hg hr hb hC h hul
      go_enter Try.func23, Try.ntmps23
      go_wp2_with fail
      refine HG.out.mono ?_
      rintro e w1 ⟨A2, c2, rfl, _, rfl⟩
      have n2 := actBox_two w kd V (k : Nat) A m c
      go_wp2
      (try simp only [Exit.inBlock, Exit.then]); refine bodyPost_ret (by simp [results, Try.results23, go_sem, *]; try rfl) rfl ?_
      exact gave_nil (p + k) 0 0 HB.out

set_option maxRecDepth 100000 in
set_option maxHeartbeats 800000 in
theorem reading_pad (s : Value) (B : List Nat) (p : Nat) (kd V N : Int) (A : Option Addr) (m c : Nat) (w : World) (h : BitE w s (unpack B)) (hBl : B.length ≤ 1048576) (hp : p ≤ 8 * B.length) (hk : 0 ≤ kd) (hk2 : kd ≤ 255) (hr : kd % 5 = 4) :
    Calls Try.prog 23 #[s, .int .i64 p, .agg #[.int .u8 kd, .int .i64 V, .int .i64 N, .slice A m c]] w
      (RefGave (if padCode B p N = 0 then bord p N.toNat else p) 0 [] (padCode B p N) w) := by
  have hb := actBox_below w kd V N A m c
  have hg := refPad s B p N (actBox w kd V N A m c) (h.later hb) hBl hp
  have q0 : (kd % 5 == 0) = false := by simp [hr]
  have q1 : (kd % 5 == 1) = false := by simp [hr]
  have q2 : (kd % 5 == 2) = false := by simp [hr]
  have q3 : (kd % 5 == 3) = false := by simp [hr]
  obtain ⟨C, hC⟩ : ∃ C, padCode B p N = C := ⟨_, rfl⟩
  rw [hC] at hg ⊢
  obtain ⟨x, hx⟩ : ∃ x, (if C = 0 then bord p N.toNat else p) = x := ⟨_, rfl⟩
  rw [hx] at hg ⊢
  have HG := Lib.hid hg
  have HB := Lib.hid hb
  clear hg hr hb hC h hx
  go_enter Try.func23, Try.ntmps23
  go_wp2_with fail
  refine HG.out.mono ?_
  rintro e w1 ⟨rfl, rfl⟩
  go_wp2
  (try simp only [Exit.inBlock, Exit.then]); refine bodyPost_ret (by simp [results, Try.results23, go_sem, *]; try rfl) rfl ?_
  exact gave_nil x 0 C HB.out

/-- reading, whatever the call. -/
theorem reading_any (s : Value) (B : List Nat) (p : Nat) (d : ActD) (w : World) (h : BitE w s (unpack B)) (hB : ∀ c ∈ B, c < 256) (hBl : B.length ≤ 1048576) (hp : p ≤ 8 * B.length) (hk : d.kd ≤ 255) :
    Calls Try.prog 23 #[s, .int .i64 p, .agg #[.int .u8 d.kd, .int .i64 d.V, .int .i64 d.N, .slice d.A d.B.length d.c]] w (RefGave (rNext B p d) (rVal B p d) (rBytes B p d) (rCode B p d) w) := by
  have hr : d.kd % 5 = 0 ∨ d.kd % 5 = 1 ∨ d.kd % 5 = 2 ∨ d.kd % 5 = 3 ∨ d.kd % 5 = 4 := by omega
  rcases hr with hr | hr | hr | hr | hr
  · have := reading_get s B p d.kd d.V d.N d.A d.B.length d.c w h hBl hp (by omega) (by omega) (by omega)
    have e1 : rCode B p d = getCode B.length p d.N := by unfold rCode; rw [if_pos hr]
    have e2 : rBytes B p d = [] := by unfold rBytes; rw [if_neg (show ¬ d.kd % 5 = 2 by omega)]; split <;> rfl
    rw [e2]
    unfold rNext rVal rTo
    rw [e1, if_pos hr, if_pos hr]
    exact this
  · have := reading_little s B p d.kd d.V d.N d.A d.B.length d.c w h hB hBl hp (by omega) (by omega) (by omega)
    have n0 : ¬ d.kd % 5 = 0 := by omega
    have e1 : rCode B p d = rlittleCode B.length p d.N := by unfold rCode; rw [if_neg n0, if_pos hr]
    have e2 : rBytes B p d = [] := by unfold rBytes; rw [if_neg (show ¬ d.kd % 5 = 2 by omega)]; split <;> rfl
    rw [e2]
    unfold rNext rVal rTo
    rw [e1, if_neg n0, if_neg n0, if_pos hr, if_pos hr]
    exact this
  · have := reading_take s B p d.kd d.V d.N d.A d.B.length d.c w h hB hBl hp (by omega) (by omega) (by omega)
    have n0 : ¬ d.kd % 5 = 0 := by omega
    have n1 : ¬ d.kd % 5 = 1 := by omega
    have e1 : rCode B p d = takeCode B.length p d.N := by unfold rCode; rw [if_neg n0, if_neg n1, if_pos hr]
    have e2 : rBytes B p d = tBytes B p d.N := by unfold rBytes tBytes; rw [e1, if_pos hr]
    have e3 : rVal B p d = 0 := by unfold rVal; rw [if_neg n0, if_neg n1]; split <;> rfl
    rw [e2, e3]
    unfold rNext rTo
    rw [e1, if_neg n0, if_neg n1, if_pos hr]
    exact this
  · have := reading_skip s B p d.kd d.V d.N d.A d.B.length d.c w h hBl hp (by omega) (by omega) (by omega)
    have n0 : ¬ d.kd % 5 = 0 := by omega
    have n1 : ¬ d.kd % 5 = 1 := by omega
    have n2 : ¬ d.kd % 5 = 2 := by omega
    have e1 : rCode B p d = skipCode B.length p d.N := by unfold rCode; rw [if_neg n0, if_neg n1, if_neg n2, if_pos hr]
    have e2 : rBytes B p d = [] := by unfold rBytes; rw [if_neg n2]; split <;> rfl
    have e3 : rVal B p d = 0 := by unfold rVal; rw [if_neg n0, if_neg n1]; split <;> rfl
    rw [e2, e3]
    unfold rNext rTo
    rw [e1, if_neg n0, if_neg n1, if_neg n2, if_pos hr]
    exact this
  · have := reading_pad s B p d.kd d.V d.N d.A d.B.length d.c w h hBl hp (by omega) (by omega) (by omega)
    have n0 : ¬ d.kd % 5 = 0 := by omega
    have n1 : ¬ d.kd % 5 = 1 := by omega
    have n2 : ¬ d.kd % 5 = 2 := by omega
    have n3 : ¬ d.kd % 5 = 3 := by omega
    have e1 : rCode B p d = padCode B p d.N := by unfold rCode; rw [if_neg n0, if_neg n1, if_neg n2, if_neg n3]
    have e2 : rBytes B p d = [] := by unfold rBytes; rw [if_neg n2]; split <;> rfl
    have e3 : rVal B p d = 0 := by unfold rVal; rw [if_neg n0, if_neg n1]; split <;> rfl
    rw [e2, e3]
    unfold rNext rTo
    rw [e1, if_neg n0, if_neg n1, if_neg n2, if_neg n3]
    exact this
end Go.Proofs.Ytboiiohpkoodpaa
